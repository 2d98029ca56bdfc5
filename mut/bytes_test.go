package mut_test

import (
	"slices"
	"testing"

	"cohort/api"
	"cohort/mut"
	"cohort/wire"
)

// put is the bytes of requests.
func put(l ...api.Mutation) string {
	w := wire.NewWriter()
	mut.Put(w, l)
	return w.All()
}

// refused tells whether nothing is taken off bytes, with that error.
func refused(t *testing.T, what, s string, want api.Errno) {
	t.Helper()
	r := wire.NewReader(s)
	if got := mut.Take(r); len(got) != 0 || r.Err() != want {
		t.Errorf("%s, %q: %d requests with error %d, not error %d", what, s, len(got), r.Err(), want)
	}
	r = wire.NewReader("\x02ab" + s)
	r.Text()
	if got := mut.Take(r); len(got) != 0 || r.Err() != want {
		t.Errorf("%s, %q, behind other bytes: %d requests with error %d, not error %d", what, s, len(got), r.Err(), want)
	}
}

// Promise 6.2: how many, and of each Kind, ID, To, V, as they are handed in.
func TestPut(t *testing.T) {
	for _, c := range []struct {
		l    []api.Mutation
		want string
	}{
		{nil, "\x00"},
		{[]api.Mutation{}, "\x00"},
		{[]api.Mutation{dropEdge(5, 6)}, "\x01\x01\x0a\x0c\x00"},
		{[]api.Mutation{dropVertex(-5)}, "\x01\x02\x09\x00\x00"},
		{[]api.Mutation{newVertex(5, -6)}, "\x01\x03\x0a\x00\x0b"},
		{[]api.Mutation{newEdge(1, 2, 3)}, "\x01\x04\x02\x04\x06"},
		{[]api.Mutation{newEdge(-1, -2, -3)}, "\x01\x04\x01\x03\x05"},
		{[]api.Mutation{newEdge(150, -65, 64)}, "\x01\x04\xac\x02\x81\x01\x80\x01"},
		{[]api.Mutation{newEdge(greatest, least, least)}, "\x01\x04\xfe\xff\xff\xff\xff\xff\xff\xff\xff\x01" +
			"\xff\xff\xff\xff\xff\xff\xff\xff\xff\x01\xff\xff\xff\xff\xff\xff\xff\xff\xff\x01"},
		{[]api.Mutation{newEdge(1, 2, 3), dropVertex(1), dropVertex(1)}, "\x03\x04\x02\x04\x06\x02\x02\x00\x00\x02\x02\x00\x00"},
	} {
		before := slices.Clone(c.l)
		if got := put(c.l...); got != c.want {
			t.Errorf("%v is put as %q, not %q", c.l, got, c.want)
		}
		same(t, "what was handed in", c.l, before)
	}
}

// several has requests of all kinds, one of them twice over, in no order.
func several() []api.Mutation {
	return []api.Mutation{newEdge(1, 2, 5), dropVertex(3), newEdge(1, 2, 3), newVertex(-7, 70), dropEdge(1, 2), dropVertex(3), newVertex(0, 0),
		dropEdge(least, greatest), newEdge(greatest, least, greatest)}
}

// lists has requests that may be taken again.
func lists() [][]api.Mutation {
	l := [][]api.Mutation{nil, several(), slices.Repeat(several(), 30)}
	for _, n := range []int64{0, 1, -1, 63, 64, -64, -65, 1 << 32, -1 << 32, greatest, least} {
		l = append(l, []api.Mutation{dropEdge(n, 0)}, []api.Mutation{dropEdge(0, n)}, []api.Mutation{dropVertex(n)})
		l = append(l, []api.Mutation{newVertex(n, 0), newVertex(0, n), newEdge(n, 0, 0), newEdge(0, n, 0), newEdge(0, 0, n), newEdge(n, n, n)})
	}
	return l
}

// Promise 6.2: there and back, in the order in which they were put, alone, and between other bytes.
func TestPutAndTake(t *testing.T) {
	w := wire.NewWriter()
	for _, l := range lists() {
		r := wire.NewReader(put(l...))
		same(t, "what was put", mut.Take(r), l)
		if e := r.End(); e != api.OK {
			t.Errorf("behind %v: error %d", l, e)
		}
		w.Text("ab")
		mut.Put(w, l)
		w.Signed(-7)
	}
	r := wire.NewReader(w.All())
	for _, l := range lists() {
		if s := r.Text(); s != "ab" {
			t.Fatalf("ahead of %v: %q", l, s)
		}
		same(t, "what was put between other bytes", mut.Take(r), l)
		if n := r.Signed(); n != -7 {
			t.Fatalf("behind %v: %d", l, n)
		}
	}
	if e := r.End(); e != api.OK {
		t.Errorf("at the end: error %d", e)
	}
}

// Promise 6.2: just those that may be are taken again, whatever their parts.
func TestTakeMayBe(t *testing.T) {
	for _, m := range rising() {
		if m.Kind < 0 || m.Kind > 4 {
			continue
		}
		if !mayBe(m) {
			refused(t, "one that may not be", put(m), api.ErrForm)
			continue
		}
		r := wire.NewReader(put(m))
		same(t, "one that may be", mut.Take(r), []api.Mutation{m})
		if e := r.End(); e != api.OK {
			t.Errorf("behind %v: error %d", m, e)
		}
	}
}

// Promise 6.2: one that may not be, at the first, in the midst and at the last; nothing is told of those ahead of it.
func TestTakeMayNotBe(t *testing.T) {
	good := "\x04\x02\x04\x06"
	for _, bad := range []string{
		"\x00\x00\x00\x00",                         // no kind
		"\x00\x02\x04\x06",                         // no kind, with all else
		"\x01\x02\x04\x02",                         // an edge goes, with a weight
		"\x01\x02\x04\x01",                         // with one below 0
		"\x02\x02\x04\x00",                         // a vertex goes, with an end
		"\x02\x02\x00\x02",                         // with a value
		"\x02\x02\x03\x01",                         // with both
		"\x03\x02\x04\x06",                         // a vertex comes, with an end
		"\x03\x02\x01\x00",                         // with one below 0
		"\x03\x02" + wire.Number(1<<63) + "\x00",   // with a great one
		"\x02\x02\x00" + wire.Number(1<<64-1),      // a vertex goes, with the least value
		"\x01\x02\x04" + wire.Number(1<<32),        // an edge goes, with a weight above 32 bits
		"\x02\x02" + wire.Number(1<<33) + "\x00",   // a vertex goes, with an end above 32 bits
		"\x03\x00" + wire.Number(1<<33-1) + "\x00", // a vertex comes, with such an end
	} {
		refused(t, "alone", "\x01"+bad, api.ErrForm)
		refused(t, "ahead of others", "\x03"+bad+good+good, api.ErrForm)
		refused(t, "between others", "\x03"+good+bad+good, api.ErrForm)
		refused(t, "behind others", "\x03"+good+good+bad, api.ErrForm)
		refused(t, "ahead of bytes that are left", "\x01"+bad+good, api.ErrForm)
	}
}

// Promise 6.2: a reader tells the first error that it comes to.
func TestTakeFirstError(t *testing.T) {
	refused(t, "one that may not be, ahead of the end", "\x02\x00\x00\x00\x00", api.ErrForm)
	refused(t, "one that may not be, ahead of a kind above the most", "\x02\x02\x02\x02\x02\x05\x00\x00\x00", api.ErrForm)
	refused(t, "a kind above the most, ahead of one that may not be", "\x02\x05\x00\x00\x00\x00\x00\x00\x00", api.ErrMore)
	refused(t, "one that would not be, cut", "\x01\x02\x02\x02", api.ErrCut)
	refused(t, "no kind, cut", "\x01\x00", api.ErrCut)
	refused(t, "no kind, cut in its last part", "\x01\x00\x00\x00", api.ErrCut)
	refused(t, "the end, ahead of what would not be", "\x02\x04\x02\x04\x06\x00", api.ErrCut)
}

// Promise 6.2: as many as there may be are taken, and one more is not.
func TestTakeMost(t *testing.T) {
	l := slices.Repeat([]api.Mutation{newEdge(1, 2, 3), dropVertex(-65)}, api.MaxSent/2)
	r := wire.NewReader(put(l...))
	if got := mut.Take(r); !slices.Equal(got, l) || r.End() != api.OK {
		t.Errorf("the most there may be: %d requests with error %d", len(got), r.Err())
	}
	r = wire.NewReader(put(append(l, newEdge(1, 2, 3))...))
	if got := mut.Take(r); len(got) != 0 || r.Err() != api.ErrMore || r.At() != 0 {
		t.Errorf("one more: %d requests with error %d at %d", len(got), r.Err(), r.At())
	}
}

// Promise 6.2: counts above the most, whatever follows.
func TestTakeCountAbove(t *testing.T) {
	for _, n := range []uint64{api.MaxSent + 1, api.MaxSent * 2, 1 << 32, 1 << 63, 1<<64 - 1} {
		refused(t, "a count above the most", wire.Number(n), api.ErrMore)
		refused(t, "a count above the most", wire.Number(n)+"\x04\x02\x04\x06", api.ErrMore)
		refused(t, "a count above the most, and one that may not be", wire.Number(n)+"\x00\x00\x00\x00", api.ErrMore)
	}
	refused(t, "the greatest count, and nothing behind it", wire.Number(api.MaxSent), api.ErrCut)
	refused(t, "the greatest count, and one request", wire.Number(api.MaxSent)+"\x04\x02\x04\x06", api.ErrCut)
}

// Promise 6.2: kinds above 4, in the first request and in the last.
func TestTakeKindAbove(t *testing.T) {
	for _, kind := range []uint64{5, 6, 127, 128, 256 + 4, 1<<32 + 4, 1 << 63, 1<<64 - 1} {
		bad, good := wire.Number(kind)+"\x02\x04\x06", "\x04\x02\x04\x06"
		refused(t, "a kind above the most", "\x01"+bad, api.ErrMore)
		refused(t, "a kind above the most, with nothing else", "\x01"+wire.Number(kind)+"\x00\x00\x00", api.ErrMore)
		refused(t, "a kind above the most ahead of others", "\x03"+bad+good+good, api.ErrMore)
		refused(t, "a kind above the most behind others", "\x03"+good+good+bad, api.ErrMore)
		refused(t, "a kind above the most, and nothing behind it", "\x01"+wire.Number(kind), api.ErrMore)
	}
	refused(t, "what was put with a kind above the most", put(ask(5, 1, 2, 3)), api.ErrMore)
	refused(t, "what was put with a kind below 0", put(ask(-1, 1, 2, 3)), api.ErrForm)
}

// Promise 6.2: bytes that end too early.
func TestTakeCut(t *testing.T) {
	for _, l := range [][]api.Mutation{nil, {dropVertex(0)}, {newEdge(greatest, least, least)}, several()} {
		s := put(l...)
		for n := range len(s) {
			refused(t, "what was cut", s[:n], api.ErrCut)
		}
	}
}

// Promise 6.2: a count, and each part of a request, that is no number.
func TestTakeForm(t *testing.T) {
	for _, bad := range []string{"\x80\x00", "\xff\x00", "\x80\x80\x00", "\x80\x80\x80\x80\x80\x80\x80\x80\x80\x02",
		"\xff\xff\xff\xff\xff\xff\xff\xff\xff\xff"} {
		refused(t, "a count of another form", bad, api.ErrForm)
		parts := []string{"\x04", "\x02", "\x04", "\x06"}
		for i, good := range parts {
			parts[i] = bad
			one := parts[0] + parts[1] + parts[2] + parts[3]
			refused(t, "a part of another form", "\x01"+one, api.ErrForm)
			refused(t, "a part of another form behind others", "\x02\x04\x02\x04\x06"+one, api.ErrForm)
			parts[i] = good
		}
	}
}

// Promise 6.2: what stands behind them is left.
func TestTakeLeaves(t *testing.T) {
	for _, l := range lists() {
		s := put(l...)
		r := wire.NewReader(s + "\x01\x00\x03")
		same(t, "ahead of other bytes", mut.Take(r), l)
		if r.At() != len(s) || r.Err() != api.OK {
			t.Errorf("%d bytes of %d are taken with error %d", r.At(), len(s), r.Err())
		}
		if e := r.End(); e != api.ErrMore {
			t.Errorf("at the end, with bytes left: error %d", e)
		}
	}
}

// Promise 6.2: off a reader that has an error already there are none, and the error stays.
func TestTakeBehindError(t *testing.T) {
	for _, l := range lists() {
		for _, e := range []api.Errno{api.ErrArg, api.ErrCut, api.ErrForm, api.ErrMore, api.ErrVertex} {
			r := wire.NewReader(put(l...))
			r.Fail(e)
			if got := mut.Take(r); len(got) != 0 || r.Err() != e || r.At() != 0 {
				t.Errorf("behind error %d: %v with error %d at %d", e, got, r.Err(), r.At())
			}
		}
	}
	if got := mut.Take(nil); len(got) != 0 {
		t.Errorf("off no reader: %v", got)
	}
	mut.Put(nil, several())
}

// R2: what is taken is the caller's own.
func TestTakeOwn(t *testing.T) {
	s := put(several()...)
	first, second := mut.Take(wire.NewReader(s)), mut.Take(wire.NewReader(s))
	spoil(first)
	same(t, "another answer, as one is changed", second, several())
}
