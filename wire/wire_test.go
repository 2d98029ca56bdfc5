package wire_test

import (
	"encoding/binary"
	"hash/crc32"
	"math"
	"strings"
	"testing"

	"cohort/api"
	"cohort/wire"
)

// samples has numbers of all sizes from 1 to 10 bytes, the least and the greatest of each size among them.
func samples() []uint64 {
	l := []uint64{0, 1, 2, 63, 64, 300}
	for bits := 7; bits < 64; bits += 7 {
		edge := uint64(1) << bits
		l = append(l, edge-1, edge, edge+1)
	}
	return append(l, 1<<63-1, 1<<63, math.MaxUint64-1, math.MaxUint64)
}

// signedSamples has signed numbers near 0 and near all powers of 2.
func signedSamples() []int64 {
	l := []int64{0, -1, 1, -2, 2, -5, 150, -150}
	for bits := range 63 {
		edge := int64(1) << bits
		l = append(l, edge, edge-1, -edge, -edge-1)
	}
	return append(l, math.MaxInt64, math.MinInt64)
}

// texts has texts of which some have lengths of more than one byte.
func texts() []string {
	every := make([]byte, 256)
	for i := range every {
		every[i] = byte(i)
	}
	return []string{"", "x", "\x00", "\xff", "123456789", string(every),
		strings.Repeat("a", 127), strings.Repeat("b", 128), strings.Repeat("c", 20000)}
}

// Promise 1.1.
func TestSum(t *testing.T) {
	for _, x := range []struct {
		s    string
		want uint32
	}{
		{"", 0},
		{"\x00", 0xd202ef8d},
		{"a", 0xe8b7be43},
		{"123456789", 0xcbf43926},
		{"\xff\xff\xff\xff", 0xffffffff},
	} {
		if got := wire.Sum(x.s); got != x.want {
			t.Errorf("Sum(%q) is %#x, not %#x", x.s, got, x.want)
		}
	}
	for _, s := range texts() {
		if got, want := wire.Sum(s), crc32.ChecksumIEEE([]byte(s)); got != want {
			t.Errorf("the sum of %d bytes is %#x, not %#x", len(s), got, want)
		}
	}
}

// Promise 1.1.
func TestNumber(t *testing.T) {
	for _, x := range []struct {
		n    uint64
		want string
	}{
		{0, "\x00"},
		{1, "\x01"},
		{127, "\x7f"},
		{128, "\x80\x01"},
		{300, "\xac\x02"},
		{16383, "\xff\x7f"},
		{16384, "\x80\x80\x01"},
		{1<<63 - 1, "\xff\xff\xff\xff\xff\xff\xff\xff\x7f"},
		{1 << 63, "\x80\x80\x80\x80\x80\x80\x80\x80\x80\x01"},
		{math.MaxUint64, "\xff\xff\xff\xff\xff\xff\xff\xff\xff\x01"},
	} {
		if got := wire.Number(x.n); got != x.want {
			t.Errorf("Number(%d) is %q, not %q", x.n, got, x.want)
		}
	}
	sizes := map[int]int{}
	for _, n := range samples() {
		got := wire.Number(n)
		sizes[len(got)]++
		if want := string(binary.AppendUvarint(nil, n)); got != want {
			t.Errorf("Number(%d) is %q, not %q", n, got, want)
		}
	}
	for size := 1; size <= 10; size++ {
		if sizes[size] == 0 {
			t.Errorf("no number of %d bytes was tried", size)
		}
	}
}

// Promise 1.1.
func TestFold(t *testing.T) {
	for _, x := range []struct {
		n    int64
		want uint64
	}{
		{0, 0},
		{-1, 1},
		{1, 2},
		{-2, 3},
		{2, 4},
		{-150, 299},
		{math.MaxInt64, math.MaxUint64 - 1},
		{math.MinInt64, math.MaxUint64},
	} {
		if got := wire.Fold(x.n); got != x.want {
			t.Errorf("Fold(%d) is %d, not %d", x.n, got, x.want)
		}
		if got := wire.Unfold(x.want); got != x.n {
			t.Errorf("Unfold(%d) is %d, not %d", x.want, got, x.n)
		}
	}
	for _, n := range signedSamples() {
		if got := wire.Unfold(wire.Fold(n)); got != n {
			t.Errorf("%d comes back as %d", n, got)
		}
	}
	for _, n := range samples() {
		if got := wire.Fold(wire.Unfold(n)); got != n {
			t.Errorf("%d without sign comes back as %d", n, got)
		}
	}
}

// Promise 1.1: the sum is that of the text in bytes, its length among them.
func TestFrame(t *testing.T) {
	for _, x := range []struct{ s, want string }{
		{"", "\x00\x8d\xef\x02\xd2"},
		{"x", "\x01x\xb0\xda\x1c\x06"},
	} {
		if got := wire.Frame(x.s); got != x.want {
			t.Errorf("Frame(%q) is %q, not %q", x.s, got, x.want)
		}
	}
	for _, s := range texts() {
		b := append(binary.AppendUvarint(nil, uint64(len(s))), s...)
		want := string(binary.LittleEndian.AppendUint32(b, crc32.ChecksumIEEE(b)))
		if got := wire.Frame(s); got != want {
			t.Errorf("the frame of %d bytes is another one", len(s))
		}
	}
}

// Promise 1.1.
func TestUnframe(t *testing.T) {
	for _, s := range texts() {
		for _, ahead := range []string{"", "a", wire.Frame("ahead"), strings.Repeat("\xff", 300)} {
			for _, behind := range []string{"", "more", "\x00", wire.Frame("behind")} {
				whole := ahead + wire.Frame(s)
				got, at, e := wire.Unframe(whole+behind, len(ahead))
				if got != s || at != len(whole) || e != api.OK {
					t.Errorf("a frame of %d bytes at %d: %d bytes, behind it %d, error %d", len(s), len(ahead), len(got), at, e)
				}
			}
		}
	}
}

func refuseFrame(t *testing.T, s string, at int, want api.Errno) {
	t.Helper()
	got, end, e := wire.Unframe(s, at)
	if got != "" || end != 0 || e != want {
		t.Errorf("Unframe(%q, %d) is %q, %d, error %d, not error %d", s, at, got, end, e, want)
	}
}

// Promise 1.1.
func TestUnframePlace(t *testing.T) {
	frame := wire.Frame("x")
	for _, at := range []int{-1, math.MinInt, len(frame) + 1, math.MaxInt} {
		refuseFrame(t, frame, at, api.ErrArg)
	}
	refuseFrame(t, "", -1, api.ErrArg)
	refuseFrame(t, "", 1, api.ErrArg)
	// The length of s is a place, at which all bytes end.
	refuseFrame(t, frame, len(frame), api.ErrCut)
	refuseFrame(t, "", 0, api.ErrCut)
	// No frame begins within this one.
	for at := 1; at < len(frame); at++ {
		if got, end, e := wire.Unframe(frame, at); got != "" || end != 0 || e == api.OK {
			t.Errorf("a frame at %d: %q, %d, error %d", at, got, end, e)
		}
	}
}

// Promise 1.1.
func TestUnframeCut(t *testing.T) {
	for _, s := range texts() {
		if len(s) > 300 {
			continue
		}
		for _, ahead := range []string{"", "ahead"} {
			frame := wire.Frame(s)
			for n := range len(frame) {
				refuseFrame(t, ahead+frame[:n], len(ahead), api.ErrCut)
			}
		}
	}
	refuseFrame(t, wire.Number(math.MaxUint64)+"abcdefgh", 0, api.ErrCut)
	refuseFrame(t, wire.Number(1<<63)+"abcdefgh", 0, api.ErrCut)
	refuseFrame(t, wire.Number(1<<32)+"abcdefgh", 0, api.ErrCut)
}

// Promise 1.1.
func TestUnframeForm(t *testing.T) {
	for _, number := range badNumbers() {
		refuseFrame(t, number+"abcdefgh", 0, api.ErrForm)
		refuseFrame(t, "ahead"+number+"abcdefgh", 5, api.ErrForm)
	}
	// A length in a longer form, with the sum that these bytes would have.
	long := "\x81\x00x"
	refuseFrame(t, long+sumBytes(long), 0, api.ErrForm)
	// A sum of the text without its length, one whose highest byte is first, and none.
	refuseFrame(t, "\x01x"+sumBytes("x"), 0, api.ErrForm)
	refuseFrame(t, "\x01x"+string(binary.BigEndian.AppendUint32(nil, crc32.ChecksumIEEE([]byte("\x01x")))), 0, api.ErrForm)
	refuseFrame(t, "\x01x\x00\x00\x00\x00", 0, api.ErrForm)
	refuseFrame(t, "\x00\x00\x00\x00\x00", 0, api.ErrForm)
}

func sumBytes(s string) string {
	return string(binary.LittleEndian.AppendUint32(nil, crc32.ChecksumIEEE([]byte(s))))
}

// Promise 1.1: a frame at any place with any one bit turned is none.
func TestUnframeSum(t *testing.T) {
	for _, s := range []string{"", "x", "123456789", strings.Repeat("b", 130)} {
		for _, ahead := range []string{"", "a", wire.Frame("ahead")} {
			frame := wire.Frame(s)
			length := len(wire.Number(uint64(len(s))))
			for i := range frame {
				for bit := range 8 {
					b := []byte(ahead + frame)
					b[len(ahead)+i] ^= 1 << bit
					if i >= length {
						refuseFrame(t, string(b), len(ahead), api.ErrForm)
					} else if got, at, e := wire.Unframe(string(b), len(ahead)); got != "" || at != 0 || e == api.OK {
						t.Errorf("bit %d of byte %d turned: %q, %d, error %d", bit, i, got, at, e)
					}
				}
			}
		}
	}
}
