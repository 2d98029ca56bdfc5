package wire_test

import (
	"math"
	"strings"
	"testing"

	"cohort/api"
	"cohort/wire"
)

// badNumbers has beginnings of bytes that are no number, whatever follows.
func badNumbers() []string {
	l := []string{}
	for n := 1; n <= 9; n++ {
		l = append(l, strings.Repeat("\x80", n)+"\x00", strings.Repeat("\xff", n)+"\x00")
	}
	for _, tenth := range []string{"\x00", "\x02", "\x03", "\x7f", "\x80", "\x81", "\xff"} {
		l = append(l, strings.Repeat("\x80", 9)+tenth, strings.Repeat("\xff", 9)+tenth)
	}
	return l
}

// cutNumbers has beginnings of numbers.
func cutNumbers() []string {
	l := []string{}
	for n := range 10 {
		l = append(l, strings.Repeat("\x80", n), strings.Repeat("\xff", n))
	}
	return l
}

// refused tells whether a reader has that error, with nothing taken behind a place.
func refused(t *testing.T, what string, r *wire.Reader, all string, at int, want api.Errno) {
	t.Helper()
	if r.Err() != want {
		t.Errorf("%s of %q at %d: error %d, not %d", what, all, at, r.Err(), want)
	}
	if r.At() != at || r.Left() != len(all)-at {
		t.Errorf("%s of %q at %d: it stands at %d with %d left", what, all, at, r.At(), r.Left())
	}
}

// takes has all calls that take, each with whether its answer is the zero value.
func takes() map[string]func(r *wire.Reader) bool {
	return map[string]func(r *wire.Reader) bool{
		"Bytes(0)":  func(r *wire.Reader) bool { return r.Bytes(0) == "" },
		"Bytes(1)":  func(r *wire.Reader) bool { return r.Bytes(1) == "" },
		"Bytes(-1)": func(r *wire.Reader) bool { return r.Bytes(-1) == "" },
		"Number":    func(r *wire.Reader) bool { return r.Number() == 0 },
		"Signed":    func(r *wire.Reader) bool { return r.Signed() == 0 },
		"Count":     func(r *wire.Reader) bool { return r.Count(1000) == 0 },
		"Count(-1)": func(r *wire.Reader) bool { return r.Count(-1) == 0 },
		"Text":      func(r *wire.Reader) bool { return r.Text() == "" },
		"Bool":      func(r *wire.Reader) bool { return !r.Bool() },
	}
}

// numberTakes has those of them that begin with a number.
func numberTakes() map[string]func(r *wire.Reader) bool {
	l := takes()
	for _, name := range []string{"Bytes(0)", "Bytes(1)", "Bytes(-1)"} {
		delete(l, name)
	}
	return l
}

// Promise 1.2.
func TestReaderBytes(t *testing.T) {
	r := wire.NewReader("abcdef")
	for _, x := range []struct {
		n    int
		want string
		at   int
	}{{2, "ab", 2}, {0, "", 2}, {3, "cde", 5}, {1, "f", 6}, {0, "", 6}} {
		if got := r.Bytes(x.n); got != x.want || r.At() != x.at || r.Left() != 6-x.at || r.Err() != api.OK {
			t.Errorf("Bytes(%d) is %q at %d with %d left, error %d", x.n, got, r.At(), r.Left(), r.Err())
		}
	}
	if e := r.End(); e != api.OK {
		t.Errorf("at the end: error %d", e)
	}
	for _, x := range []struct {
		n    int
		want api.Errno
	}{{-1, api.ErrArg}, {math.MinInt, api.ErrArg}, {5, api.ErrCut}, {math.MaxInt, api.ErrCut}} {
		r := wire.NewReader("abcdef")
		r.Bytes(2)
		if got := r.Bytes(x.n); got != "" {
			t.Errorf("Bytes(%d) with an error is %q", x.n, got)
		}
		refused(t, "Bytes", r, "abcdef", 2, x.want)
	}
}

// Promise 1.2.
func TestReaderNumber(t *testing.T) {
	for _, n := range samples() {
		all := "ab" + wire.Number(n) + "\x05"
		r := wire.NewReader(all)
		r.Bytes(2)
		if got := r.Number(); got != n || r.Err() != api.OK || r.At() != len(all)-1 || r.Left() != 1 {
			t.Errorf("%d is taken as %d, error %d, at %d", n, got, r.Err(), r.At())
		}
		if got := r.Number(); got != 5 || r.End() != api.OK {
			t.Errorf("behind %d: %d, error %d", n, got, r.Err())
		}
	}
}

// Promise 1.2: whatever begins with a number tells the number's errors first.
func TestReaderNumberErrors(t *testing.T) {
	for name, take := range numberTakes() {
		for _, number := range cutNumbers() {
			r := wire.NewReader("ab" + number)
			r.Bytes(2)
			if !take(r) {
				t.Errorf("%s of %q is not the zero value", name, number)
			}
			refused(t, name, r, "ab"+number, 2, api.ErrCut)
		}
		for _, number := range badNumbers() {
			for _, behind := range []string{"", "\x00", "\x01", "abcdef"} {
				all := "ab" + number + behind
				r := wire.NewReader(all)
				r.Bytes(2)
				if !take(r) {
					t.Errorf("%s of %q is not the zero value", name, number)
				}
				refused(t, name, r, all, 2, api.ErrForm)
			}
		}
	}
}

// Promise 1.2.
func TestReaderSigned(t *testing.T) {
	for _, n := range signedSamples() {
		r := wire.NewReader(wire.Number(wire.Fold(n)) + "\x00")
		if got := r.Signed(); got != n || r.Err() != api.OK || r.Left() != 1 {
			t.Errorf("%d is taken as %d, error %d", n, got, r.Err())
		}
	}
}

// Promise 1.2.
func TestReaderCount(t *testing.T) {
	for _, x := range []struct {
		n    uint64
		most int
		want api.Errno
	}{
		{0, 0, api.OK},
		{1, 1, api.OK},
		{299, 300, api.OK},
		{300, 300, api.OK},
		{301, 300, api.ErrMore},
		{1, 0, api.ErrMore},
		{math.MaxInt, math.MaxInt, api.OK},
		{math.MaxInt + 1, math.MaxInt, api.ErrMore},
		{math.MaxUint64, math.MaxInt, api.ErrMore},
		{math.MaxUint64, 5, api.ErrMore},
		{1 << 32, 5, api.ErrMore},
		{0, -1, api.ErrMore},
		{1, -1, api.ErrMore},
		{0, math.MinInt, api.ErrMore},
		{math.MaxUint64, -1, api.ErrMore},
	} {
		all := "a" + wire.Number(x.n) + "b"
		r := wire.NewReader(all)
		r.Bytes(1)
		got := r.Count(x.most)
		if x.want == api.OK {
			if uint64(got) != x.n || r.Err() != api.OK || r.Left() != 1 {
				t.Errorf("%d of at most %d is taken as %d, error %d", x.n, x.most, got, r.Err())
			}
			continue
		}
		if got != 0 {
			t.Errorf("%d of at most %d is taken as %d", x.n, x.most, got)
		}
		refused(t, "Count", r, all, 1, x.want)
	}
}

// Promise 1.2.
func TestReaderText(t *testing.T) {
	for _, s := range texts() {
		whole := wire.Number(uint64(len(s))) + s
		for _, behind := range []string{"", "b"} {
			r := wire.NewReader(whole + behind)
			if got := r.Text(); got != s || r.Err() != api.OK || r.At() != len(whole) || r.Left() != len(behind) {
				t.Errorf("a text of %d bytes is taken as %d bytes, error %d", len(s), len(got), r.Err())
			}
		}
	}
	for _, all := range []string{"a\x01", "a\x03xy", "a\x80\x01xy",
		"a" + wire.Number(127) + strings.Repeat("x", 126),
		"a" + wire.Number(1<<31) + "xy",
		"a" + wire.Number(1<<32+1) + "xy",
		"a" + wire.Number(math.MaxInt64) + "xy",
		"a" + wire.Number(1<<63) + "xy",
		"a" + wire.Number(math.MaxUint64) + "xy"} {
		r := wire.NewReader(all)
		r.Bytes(1)
		if got := r.Text(); got != "" {
			t.Errorf("a text that is cut is %q", got)
		}
		refused(t, "Text", r, all, 1, api.ErrCut)
	}
}

// Promise 1.2.
func TestReaderBool(t *testing.T) {
	r := wire.NewReader("\x01\x00\x01")
	if a, b, c := r.Bool(), r.Bool(), r.Bool(); !a || b || !c || r.End() != api.OK {
		t.Errorf("yes, no, yes are taken as %v, %v, %v, error %d", a, b, c, r.Err())
	}
	for _, n := range []uint64{2, 3, 127, 128, 129, 257, 1 << 32, 1<<32 + 1, math.MaxUint64} {
		all := "a" + wire.Number(n)
		r := wire.NewReader(all)
		r.Bytes(1)
		if r.Bool() {
			t.Errorf("%d is yes", n)
		}
		refused(t, "Bool", r, all, 1, api.ErrForm)
	}
}

// Promise 1.2: behind an error no call takes anything, and the error stays, wherever it came from.
func TestReaderKeepsFirstError(t *testing.T) {
	all := "a\x01\x01\x01"
	first := map[api.Errno]func(r *wire.Reader){
		api.ErrArg:  func(r *wire.Reader) { r.Bytes(-1) },
		api.ErrCut:  func(r *wire.Reader) { r.Bytes(100) },
		api.ErrMore: func(r *wire.Reader) { r.Count(0) },
		api.ErrForm: func(r *wire.Reader) { r.Fail(api.ErrForm) },
		api.ErrDead: func(r *wire.Reader) { r.Fail(api.ErrDead) },
	}
	for e, fail := range first {
		for name, take := range takes() {
			r := wire.NewReader(all)
			r.Bytes(1)
			fail(r)
			for range 2 {
				if !take(r) {
					t.Errorf("%s behind error %d is not the zero value", name, e)
				}
				refused(t, name, r, all, 1, e)
			}
		}
		r := wire.NewReader(all)
		r.Bytes(1)
		fail(r)
		r.Fail(api.ErrNone)
		refused(t, "Fail", r, all, 1, e)
		r.Fail(api.OK)
		refused(t, "Fail(OK)", r, all, 1, e)
		if got := r.End(); got != e {
			t.Errorf("End behind error %d is %d", e, got)
		}
		refused(t, "End", r, all, 1, e)
	}
}

// Promise 1.2.
func TestReaderFail(t *testing.T) {
	r := wire.NewReader("a")
	r.Fail(api.OK)
	if r.Err() != api.OK || r.Bytes(1) != "a" {
		t.Errorf("behind Fail(OK): error %d, at %d", r.Err(), r.At())
	}
	r.Fail(api.ErrVertex)
	refused(t, "Fail", r, "a", 1, api.ErrVertex)
	if e := r.End(); e != api.ErrVertex {
		t.Errorf("End at the end, behind Fail: error %d", e)
	}
}

// Promise 1.2.
func TestReaderEnd(t *testing.T) {
	r := wire.NewReader("")
	if e := r.End(); e != api.OK || r.Err() != api.OK || r.At() != 0 || r.Left() != 0 {
		t.Errorf("without bytes: error %d", e)
	}
	r = wire.NewReader("\x05\x06")
	r.Number()
	if e := r.End(); e != api.ErrMore {
		t.Errorf("with a byte left: error %d", e)
	}
	refused(t, "End", r, "\x05\x06", 1, api.ErrMore)
	if n := r.Number(); n != 0 {
		t.Errorf("behind End with a byte left: %d", n)
	}
	refused(t, "Number", r, "\x05\x06", 1, api.ErrMore)
	// An end that was asked for stands in nobody's way.
	r = wire.NewReader("\x05")
	r.Number()
	if a, b := r.End(), r.End(); a != api.OK || b != api.OK {
		t.Errorf("at the end: errors %d, %d", a, b)
	}
}

// Promise 1.2.
func TestReaderNil(t *testing.T) {
	var r *wire.Reader
	for name, take := range takes() {
		if !take(r) {
			t.Errorf("%s of a nil reader is not the zero value", name)
		}
	}
	r.Fail(api.ErrForm)
	if r.Err() != api.ErrArg || r.End() != api.ErrArg || r.At() != 0 || r.Left() != 0 {
		t.Errorf("a nil reader: errors %d, %d, at %d, left %d", r.Err(), r.End(), r.At(), r.Left())
	}
}

// R4, R5: two readers of the same bytes have nothing to do with one another.
func TestReadersApart(t *testing.T) {
	a, b := wire.NewReader("\x01\x02"), wire.NewReader("\x01\x02")
	a.Number()
	a.Fail(api.ErrForm)
	if n := b.Number(); n != 1 || b.Err() != api.OK || b.At() != 1 {
		t.Errorf("the other reader: %d, error %d, at %d", n, b.Err(), b.At())
	}
}
