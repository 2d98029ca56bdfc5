package wire_test

import (
	"math"
	"strings"
	"testing"

	"cohort/api"
	"cohort/wire"
)

// Promise 1.4: what was put is taken again, one behind the other.
func TestPutAndTake(t *testing.T) {
	w := wire.NewWriter()
	for _, n := range samples() {
		w.Number(n)
		w.Bool(n%2 == 1)
	}
	for _, n := range signedSamples() {
		w.Signed(n)
		w.Count(int(n))
	}
	for _, s := range texts() {
		w.Text(s)
		w.Bytes(s)
		w.Bytes(wire.Frame(s))
	}
	r := wire.NewReader(w.All())
	for _, n := range samples() {
		if got, odd := r.Number(), r.Bool(); got != n || odd != (n%2 == 1) {
			t.Fatalf("%d is taken as %d, %v, error %d", n, got, odd, r.Err())
		}
	}
	for _, n := range signedSamples() {
		if got, count := r.Signed(), r.Count(math.MaxInt); got != n || count != max(int(n), 0) {
			t.Fatalf("%d is taken as %d and %d, error %d", n, got, count, r.Err())
		}
	}
	for _, s := range texts() {
		text, plain := r.Text(), r.Bytes(len(s))
		framed, at, e := wire.Unframe(w.All(), r.At())
		r.Bytes(at - r.At())
		if text != s || plain != s || framed != s || e != api.OK {
			t.Fatalf("a text of %d bytes is taken as another one, errors %d, %d", len(s), r.Err(), e)
		}
	}
	if e := r.End(); e != api.OK || r.At() != w.Len() {
		t.Errorf("at the end: error %d at %d of %d", e, r.At(), w.Len())
	}
}

// again has a value of each kind taken off bytes and put again.
func again() map[string]func(r *wire.Reader, w *wire.Writer) {
	return map[string]func(r *wire.Reader, w *wire.Writer){
		"Number": func(r *wire.Reader, w *wire.Writer) { w.Number(r.Number()) },
		"Signed": func(r *wire.Reader, w *wire.Writer) { w.Signed(r.Signed()) },
		"Count":  func(r *wire.Reader, w *wire.Writer) { w.Count(r.Count(math.MaxInt)) },
		"Text":   func(r *wire.Reader, w *wire.Writer) { w.Text(r.Text()) },
		"Bool":   func(r *wire.Reader, w *wire.Writer) { w.Bool(r.Bool()) },
	}
}

// oneForm tells whether bytes that are taken as a value are those that the value is put as.
func oneForm(t *testing.T, all string) {
	t.Helper()
	for name, f := range again() {
		r, w := wire.NewReader(all), wire.NewWriter()
		f(r, w)
		if r.Err() == api.OK && w.All() != all[:r.At()] {
			t.Fatalf("%s takes %q, and puts %q", name, all[:r.At()], w.All())
		}
		if r.Err() != api.OK && r.At() != 0 {
			t.Fatalf("%s of %q takes %d bytes with error %d", name, all, r.At(), r.Err())
		}
	}
}

// Promise 1.4: each value has one form alone, tried on all bytes of up to 2, and on those at the edges of up to 11.
func TestOneForm(t *testing.T) {
	oneForm(t, "")
	for a := range 256 {
		oneForm(t, string([]byte{byte(a)}))
		for b := range 256 {
			oneForm(t, string([]byte{byte(a), byte(b)}))
		}
	}
	edges := []string{"\x00", "\x01", "\x02", "\x7f", "\x80", "\x81", "\xff"}
	for n := range 11 {
		for _, many := range []string{"\x80", "\xff"} {
			for _, a := range edges {
				for _, b := range edges {
					oneForm(t, strings.Repeat(many, n)+a+b)
					oneForm(t, a+strings.Repeat(many, n)+b)
				}
			}
		}
	}
}

// Promise 1.4: a frame, too, has one form alone, whatever its length says.
func TestOneFrame(t *testing.T) {
	for a := range 256 {
		for b := range 256 {
			all := string([]byte{byte(a), byte(b), 'x', 'y'})
			oneForm(t, all)
			for _, s := range []string{all, all[:1] + sumBytes(all[:1]), all[:2] + sumBytes(all[:2]), all[:3] + sumBytes(all[:3])} {
				if text, at, e := wire.Unframe(s, 0); e == api.OK && wire.Frame(text) != s[:at] {
					t.Fatalf("the frame %q holds %q, and its frame is %q", s[:at], text, wire.Frame(text))
				}
			}
		}
	}
}
