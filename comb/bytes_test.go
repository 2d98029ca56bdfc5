package comb_test

import (
	"slices"
	"testing"

	"cohort/api"
	"cohort/comb"
	"cohort/wire"
)

// put is the bytes of messages.
func put(l []api.Message) string {
	w := wire.NewWriter()
	comb.PutMessages(w, l)
	return w.All()
}

// refused tells whether nothing is taken off bytes, with that error.
func refused(t *testing.T, what, s string, want api.Errno) {
	t.Helper()
	r := wire.NewReader(s)
	if got := comb.TakeMessages(r); len(got) != 0 || r.Err() != want {
		t.Errorf("%s, %q: %d messages with error %d, not error %d", what, s, len(got), r.Err(), want)
	}
	r = wire.NewReader("\x02ab" + s)
	r.Text()
	if got := comb.TakeMessages(r); len(got) != 0 || r.Err() != want {
		t.Errorf("%s, %q, behind other bytes: %d messages with error %d, not error %d", what, s, len(got), r.Err(), want)
	}
}

// Promise 5.2: how many, and of each From, To, At, V.
func TestPutMessages(t *testing.T) {
	for _, c := range []struct {
		l    []api.Message
		want string
	}{
		{nil, "\x00"},
		{[]api.Message{}, "\x00"},
		{[]api.Message{{}}, "\x01\x00\x00\x00\x00"},
		{[]api.Message{{From: 1, To: 2, At: 3, V: 4}}, "\x01\x02\x04\x03\x08"},
		{[]api.Message{{From: -1, To: -2, At: 1, V: -3}}, "\x01\x01\x03\x01\x05"},
		{[]api.Message{{From: 150, To: -65, At: 300, V: 64}}, "\x01\xac\x02\x81\x01\xac\x02\x80\x01"},
		{[]api.Message{{From: 2, To: 3, V: 7}, {From: 1, To: 3, V: 4}, {From: 1, To: 3, V: 4}},
			"\x03\x04\x06\x00\x0e\x02\x06\x00\x08\x02\x06\x00\x08"},
		{[]api.Message{{At: api.MaxSent, V: least}}, "\x01\x00\x00\x80\x80\x04\xff\xff\xff\xff\xff\xff\xff\xff\xff\x01"},
		{[]api.Message{{From: greatest, To: least, At: -1}},
			"\x01\xfe\xff\xff\xff\xff\xff\xff\xff\xff\x01\xff\xff\xff\xff\xff\xff\xff\xff\xff\x01\x00\x00"},
	} {
		before := slices.Clone(c.l)
		if got := put(c.l); got != c.want {
			t.Errorf("%v is put as %q, not %q", c.l, got, c.want)
		}
		same(t, "what was handed in", c.l, before)
	}
}

// lists has messages that may be taken again.
func lists() [][]api.Message {
	l := [][]api.Message{nil, {{}}, saying(4, -3, greatest, least), several(), slices.Repeat(several(), 20)}
	for _, n := range []int64{0, 1, -1, 63, 64, -64, -65, 1 << 32, -1 << 32, greatest, least} {
		l = append(l, []api.Message{{From: n}, {To: n}, {V: n}, {From: n, To: n, V: n}})
	}
	for _, at := range []int{0, 1, 127, 128, api.MaxSent - 1, api.MaxSent} {
		l = append(l, []api.Message{{From: 5, To: 6, At: at, V: 7}})
	}
	return l
}

// Promise 5.2: there and back, in the order in which they were put, alone, and between other bytes.
func TestPutAndTakeMessages(t *testing.T) {
	w := wire.NewWriter()
	for _, l := range lists() {
		r := wire.NewReader(put(l))
		same(t, "what was put", comb.TakeMessages(r), l)
		if e := r.End(); e != api.OK {
			t.Errorf("behind %v: error %d", l, e)
		}
		w.Text("ab")
		comb.PutMessages(w, l)
		w.Signed(-7)
	}
	r := wire.NewReader(w.All())
	for _, l := range lists() {
		if s := r.Text(); s != "ab" {
			t.Fatalf("ahead of %v: %q", l, s)
		}
		same(t, "what was put between other bytes", comb.TakeMessages(r), l)
		if n := r.Signed(); n != -7 {
			t.Fatalf("behind %v: %d", l, n)
		}
	}
	if e := r.End(); e != api.OK {
		t.Errorf("at the end: error %d", e)
	}
}

// Promise 5.2: those of a box, as it is gone over, make the same box again.
func TestPutAndTakeBox(t *testing.T) {
	b := boxOf(t, several()...)
	r := wire.NewReader(put(slices.Collect(b.All())))
	again := boxOf(t, comb.TakeMessages(r)...)
	if e := r.End(); e != api.OK {
		t.Errorf("at the end: error %d", e)
	}
	holds(t, "the box again", again, several())
}

// Promise 5.2: a place below 0 is no number: it is put as 0.
func TestPutPlaceBelow(t *testing.T) {
	r := wire.NewReader(put([]api.Message{msg(1, 2, -3, 4), msg(5, 6, 7, 8)}))
	same(t, "a place below 0", comb.TakeMessages(r), []api.Message{msg(1, 2, 0, 4), msg(5, 6, 7, 8)})
	if e := r.End(); e != api.OK {
		t.Errorf("at the end: error %d", e)
	}
}

// Promise 5.2: as many as there may be are taken, and one more is not.
func TestTakeMost(t *testing.T) {
	l := slices.Repeat([]api.Message{msg(1, 2, 3, 4), msg(-1, -2, 65, -4)}, api.MaxSent/2)
	r := wire.NewReader(put(l))
	if got := comb.TakeMessages(r); !slices.Equal(got, l) || r.End() != api.OK {
		t.Errorf("the most there may be: %d messages with error %d", len(got), r.Err())
	}
	r = wire.NewReader(put(append(l, msg(1, 2, 3, 4))))
	if got := comb.TakeMessages(r); len(got) != 0 || r.Err() != api.ErrMore || r.At() != 0 {
		t.Errorf("one more: %d messages with error %d at %d", len(got), r.Err(), r.At())
	}
}

// Promise 5.2: counts above the most, whatever follows.
func TestTakeCountAbove(t *testing.T) {
	for _, n := range []uint64{api.MaxSent + 1, api.MaxSent * 2, 1 << 32, 1 << 63, 1<<64 - 1} {
		refused(t, "a count above the most", wire.Number(n), api.ErrMore)
		refused(t, "a count above the most", wire.Number(n)+"\x02\x04\x03\x08", api.ErrMore)
	}
	refused(t, "the greatest count, and nothing behind it", wire.Number(api.MaxSent), api.ErrCut)
	refused(t, "the greatest count, and one message", wire.Number(api.MaxSent)+"\x02\x04\x03\x08", api.ErrCut)
}

// Promise 5.2: places above the most, in the first message and in the last.
func TestTakePlaceAbove(t *testing.T) {
	for _, at := range []uint64{api.MaxSent + 1, api.MaxSent * 2, 1 << 32, 1 << 63, 1<<64 - 1} {
		bad, good := "\x02\x04"+wire.Number(at)+"\x08", "\x02\x04\x03\x08"
		refused(t, "a place above the most", "\x01"+bad, api.ErrMore)
		refused(t, "a place above the most ahead of others", "\x03"+bad+good+good, api.ErrMore)
		refused(t, "a place above the most behind others", "\x03"+good+good+bad, api.ErrMore)
		refused(t, "a place above the most, and nothing behind it", "\x01\x02\x04"+wire.Number(at), api.ErrMore)
	}
	refused(t, "what was put with a place above the most", put([]api.Message{{At: api.MaxSent + 1}}), api.ErrMore)
}

// Promise 5.2: bytes that end too early.
func TestTakeCut(t *testing.T) {
	for _, l := range [][]api.Message{nil, {{}}, saying(4, -3, greatest, least), several()} {
		s := put(l)
		for n := range len(s) {
			refused(t, "what was cut", s[:n], api.ErrCut)
		}
	}
}

// Promise 5.2: a count, and each part of a message, that is no number.
func TestTakeForm(t *testing.T) {
	for _, bad := range []string{"\x80\x00", "\xff\x00", "\x80\x80\x00", "\x80\x80\x80\x80\x80\x80\x80\x80\x80\x02",
		"\xff\xff\xff\xff\xff\xff\xff\xff\xff\xff"} {
		refused(t, "a count of another form", bad, api.ErrForm)
		parts := []string{"\x02", "\x04", "\x03", "\x08"}
		for i, good := range parts {
			parts[i] = bad
			one := parts[0] + parts[1] + parts[2] + parts[3]
			refused(t, "a part of another form", "\x01"+one, api.ErrForm)
			refused(t, "a part of another form behind others", "\x02\x02\x04\x03\x08"+one, api.ErrForm)
			parts[i] = good
		}
	}
}

// Promise 5.2: what stands behind them is left.
func TestTakeLeaves(t *testing.T) {
	for _, l := range lists() {
		s := put(l)
		r := wire.NewReader(s + "\x01\x02\x03")
		same(t, "ahead of other bytes", comb.TakeMessages(r), l)
		if r.At() != len(s) || r.Err() != api.OK {
			t.Errorf("%d bytes of %d are taken with error %d", r.At(), len(s), r.Err())
		}
		if e := r.End(); e != api.ErrMore {
			t.Errorf("at the end, with bytes left: error %d", e)
		}
	}
}

// Promise 5.2: off a reader that has an error already there are none, and the error stays.
func TestTakeBehindError(t *testing.T) {
	for _, l := range lists() {
		for _, e := range []api.Errno{api.ErrArg, api.ErrCut, api.ErrForm, api.ErrMore, api.ErrVertex} {
			r := wire.NewReader(put(l))
			r.Fail(e)
			if got := comb.TakeMessages(r); len(got) != 0 || r.Err() != e || r.At() != 0 {
				t.Errorf("behind error %d: %v with error %d at %d", e, got, r.Err(), r.At())
			}
		}
	}
	if got := comb.TakeMessages(nil); len(got) != 0 {
		t.Errorf("off no reader: %v", got)
	}
	comb.PutMessages(nil, several())
}

// R2: what is taken is the caller's own.
func TestTakeOwn(t *testing.T) {
	s := put(several())
	first, second := comb.TakeMessages(wire.NewReader(s)), comb.TakeMessages(wire.NewReader(s))
	spoil(first)
	same(t, "another answer, as one is changed", second, several())
}
