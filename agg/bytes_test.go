package agg_test

import (
	"testing"

	"cohort/agg"
	"cohort/api"
	"cohort/wire"
)

// put is an aggregate's bytes.
func put(x api.Aggregate) string {
	w := wire.NewWriter()
	agg.Put(w, x)
	return w.All()
}

// Promise 4.1: of each kind, in their order, yes and the value, or no.
func TestPut(t *testing.T) {
	for _, c := range []struct {
		x    api.Aggregate
		want string
	}{
		{full(17, 3, 9, 1, 15), "\x01\x22\x01\x06\x01\x12\x01\x02\x01\x1e"},
		{full(-1, 150, 0, -2, 64), "\x01\x01\x01\xac\x02\x01\x00\x01\x03\x01\x80\x01"},
		{api.Aggregate{}, "\x00\x00\x00\x00\x00"},
		{with(api.AggSum, -1), "\x01\x01\x00\x00\x00\x00"},
		{with(api.AggMax, 0), "\x00\x00\x01\x00\x00\x00"},
		{with(api.AggOr, least), "\x00\x00\x00\x00\x01\xff\xff\xff\xff\xff\xff\xff\xff\xff\x01"},
		{api.Aggregate{V: [api.Aggs]int64{1, 2, 3, 4, 5}}, "\x00\x00\x00\x00\x00"},
	} {
		if got := put(c.x); got != c.want {
			t.Errorf("%v is put as %q, not %q", c.x, got, c.want)
		}
	}
}

// Promise 4.1: there and back, alone, and between other bytes.
func TestPutAndTake(t *testing.T) {
	l := several()
	for _, v := range samples() {
		l = append(l, full(v, v, v, v, v), with(api.AggAnd, v))
	}
	w := wire.NewWriter()
	for _, x := range l {
		r := wire.NewReader(put(x))
		check(t, "what was put", agg.Take(r), r.End(), x, api.OK)
		w.Text("ab")
		agg.Put(w, x)
		w.Signed(-7)
	}
	r := wire.NewReader(w.All())
	for _, x := range l {
		if s := r.Text(); s != "ab" {
			t.Fatalf("ahead of %v: %q", x, s)
		}
		check(t, "what was put behind other bytes", agg.Take(r), r.Err(), x, api.OK)
		if n := r.Signed(); n != -7 {
			t.Fatalf("behind %v: %d", x, n)
		}
	}
	if e := r.End(); e != api.OK {
		t.Errorf("at the end: error %d", e)
	}
}

// Promise 4.1: bytes that end too early are told, and nothing of them is taken as an aggregate.
func TestTakeCut(t *testing.T) {
	for _, x := range several() {
		s := put(x)
		for n := range len(s) {
			r := wire.NewReader(s[:n])
			check(t, "what was cut", agg.Take(r), r.Err(), api.Aggregate{}, api.ErrCut)
			r = wire.NewReader("\x02ab" + s[:n])
			r.Text()
			check(t, "what was cut behind other bytes", agg.Take(r), r.Err(), api.Aggregate{}, api.ErrCut)
		}
	}
}

// Promise 4.1: at each kind a byte that is neither yes nor no, and a value that is no number.
func TestTakeForm(t *testing.T) {
	for kind := range api.Aggs {
		ahead, behind := "", ""
		for range kind {
			ahead += "\x01\x0a"
		}
		for range api.Aggs - kind - 1 {
			behind += "\x01\x0a"
		}
		for _, bad := range []string{"\x02\x0a", "\x03\x0a", "\x7f\x0a", "\x80\x01\x0a", "\x80\x00\x0a", "\x01\x80\x00"} {
			r := wire.NewReader(ahead + bad + behind)
			check(t, "what is of another form", agg.Take(r), r.Err(), api.Aggregate{}, api.ErrForm)
		}
	}
}

// Promise 4.1: off a reader that has an error already it is an empty one, and the error stays.
func TestTakeBehindError(t *testing.T) {
	for _, x := range several() {
		for _, e := range []api.Errno{api.ErrArg, api.ErrCut, api.ErrForm, api.ErrMore} {
			r := wire.NewReader(put(x))
			r.Fail(e)
			check(t, "what is behind an error", agg.Take(r), r.Err(), api.Aggregate{}, e)
			if r.At() != 0 {
				t.Errorf("behind an error %d bytes are taken", r.At())
			}
		}
	}
	check(t, "what is taken off no reader", agg.Take(nil), api.OK, api.Aggregate{}, api.OK)
	agg.Put(nil, full(1, 2, 3, 4, 5))
}
