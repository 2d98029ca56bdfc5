package sess_test

import (
	"fmt"
	"strings"
	"testing"

	"cohort/api"
	"cohort/sess"
	"cohort/wire"
)

// refused tells whether no table is taken off bytes, with that error, and the same behind other bytes.
func refused(t *testing.T, what, s string, e api.Errno) {
	t.Helper()
	r := wire.NewReader(s)
	if got := sess.Take(r); got != nil || r.Err() != e {
		t.Errorf("%s, %q: %v with error %d, not error %d", what, s, got, r.Err(), e)
	}
	r = wire.NewReader("\x02ab" + s)
	r.Text()
	if got := sess.Take(r); got != nil || r.Err() != e {
		t.Errorf("%s, %q, behind other bytes: %v with error %d, not error %d", what, s, got, r.Err(), e)
	}
}

// some is sessions that may be, of which one was told an empty text, and one a long one.
func some() []last {
	return []last{{least, 1, "x"}, {-65, 2, ""}, {-1, 300, "told"}, {0, 1, "\x00\xff"}, {63, most, "y"}, {greatest, 7, strings.Repeat("long", 50)}}
}

// Promise 15.2: how many, and of each, by numbers, the session, the last request, what was told.
func TestPut(t *testing.T) {
	x := sess.New()
	if got := put(x); got != "\x00" {
		t.Errorf("no sessions are put as %q", got)
	}
	must(t, x, 150, 1, "ab")
	if got := put(x); got != "\x01\xac\x02\x01\x02ab" {
		t.Errorf("one session is put as %q", got)
	}
	must(t, x, -1, 1, "old")
	must(t, x, -1, 2, "")
	if got := put(x); got != "\x02\x01\x02\x00\xac\x02\x01\x02ab" {
		t.Errorf("two sessions are put as %q", got)
	}
	must(t, x, 3, 1, "\xff")
	if got := put(x); got != "\x03\x01\x02\x00\x06\x01\x01\xff\xac\x02\x01\x02ab" {
		t.Errorf("three sessions are put as %q", got)
	}
	w := wire.NewWriter()
	w.Text("ahead")
	x.Put(w)
	w.Bool(true)
	if got := w.All(); got != "\x05ahead"+put(x)+"\x01" {
		t.Errorf("between others they are put as %q", got)
	}
	x.Put(nil)
	holds(t, "behind being put", x, last{-1, 2, ""}, last{3, 1, "\xff"}, last{150, 1, "ab"})
}

// Promise 15.2: what is put is taken again, with what is behind it left alone.
func TestTake(t *testing.T) {
	for n := range len(some()) + 1 {
		l := some()[:n]
		r := wire.NewReader("\x01q" + laid(l...) + "\x05")
		r.Text()
		x := sess.Take(r)
		if x == nil || r.Err() != api.OK || r.Left() != 1 {
			t.Fatalf("%d sessions: %v, error %d, %d bytes left", n, x, r.Err(), r.Left())
		}
		holds(t, fmt.Sprint(n, " sessions"), x, l...)
		holds(t, "the same, once it was asked", x, l...)
	}
}

// Promise 15.2: as many as there may be, and one more.
func TestTakeMany(t *testing.T) {
	x := full(t)
	var l []last
	for i := range int64(api.MaxSessions) {
		l = append(l, last{10 * i, 1, "of one"})
	}
	holds(t, "all that there may be", x, l...)
	y := has(t, l...)
	holds(t, "all that there may be, taken", y, l...)
	want(t, "one more", look(y, 5, 1), answer{e: api.ErrMany})
	l = append(l, last{10 * api.MaxSessions, 1, "of one"})
	refused(t, "one more", laid(l...), api.ErrMore)
	refused(t, "one more, and nothing of them", "\x41", api.ErrMore)
	refused(t, "many more", wire.Number(1<<40), api.ErrMore)
	refused(t, "all the bits", wire.Number(1<<64-1), api.ErrMore)
}

// Promise 15.2: one that was taken goes on as the one that was put, and both apart.
func TestTakenGoesOn(t *testing.T) {
	x := sess.New()
	must(t, x, 1, 1, "a")
	must(t, x, 1, 2, "b")
	must(t, x, 9, 1, "c")
	y := sess.Take(wire.NewReader(put(x)))
	want(t, "again", do(y, 1, 2, nil), answer{"b", false, api.OK})
	want(t, "old", do(y, 1, 1, nil), answer{e: api.ErrOld})
	want(t, "beyond", do(y, 9, 3, nil), answer{e: api.ErrGap})
	must(t, y, 9, 2, "d")
	must(t, y, 5, 1, "e")
	holds(t, "the taken one", y, last{1, 2, "b"}, last{5, 1, "e"}, last{9, 2, "d"})
	holds(t, "the one that was put", x, last{1, 2, "b"}, last{9, 1, "c"})
	must(t, x, 1, 3, "f")
	must(t, x, 0, 1, "g")
	holds(t, "the taken one, behind more of the other", y, last{1, 2, "b"}, last{5, 1, "e"}, last{9, 2, "d"})
}

// Promise 15.2: bytes that end at any place are no table.
func TestTakeCut(t *testing.T) {
	s := laid(some()...)
	for n := range len(s) {
		refused(t, "cut off", s[:n], api.ErrCut)
	}
	refused(t, "a text longer than what is left", "\x01\x02\x01\x05abcd", api.ErrCut)
	refused(t, "a text much longer", "\x01\x02\x01"+wire.Number(1<<63)+"abcd", api.ErrCut)
	refused(t, "fewer sessions than told", "\x02"+laid(last{1, 1, "a"})[1:], api.ErrCut)
}

// Promise 15.2: numbers that are none, and those that are too great.
func TestTakeOtherForms(t *testing.T) {
	ten := strings.Repeat("\xff", 9) + "\x02"
	for i, s := range []string{"", "\x01", "\x01\x02", "\x01\x02\x01"} {
		refused(t, fmt.Sprint("a number in another form at ", i), s+"\x80\x00\x01a", api.ErrForm)
		refused(t, fmt.Sprint("a number of more than 64 bits at ", i), s+ten+"\x01a", api.ErrForm)
	}
	refused(t, "a request too great", "\x01\x02"+wire.Number(most+1)+"\x01a", api.ErrMore)
	refused(t, "a request much too great", "\x01\x02"+wire.Number(1<<63)+"\x01a", api.ErrMore)
	refused(t, "a request with all the bits", "\x01\x02"+wire.Number(1<<64-1)+"\x01a", api.ErrMore)
	refused(t, "a second request too great", "\x02\x02\x01\x01a\x04"+wire.Number(most+1)+"\x01a", api.ErrMore)
	holds(t, "the greatest request", has(t, last{1, most, "a"}), last{1, most, "a"})
}

// Promise 15.2: sessions stand by their numbers, each once, and have asked; a table has one form alone.
func TestTakeOtherOrder(t *testing.T) {
	refused(t, "falling", laid(last{2, 1, "a"}, last{1, 1, "b"}), api.ErrForm)
	refused(t, "falling below 0", laid(last{0, 1, "a"}, last{-1, 1, "b"}), api.ErrForm)
	refused(t, "falling at the end", laid(last{1, 1, "a"}, last{2, 1, "b"}, last{0, 1, "c"}), api.ErrForm)
	refused(t, "the same twice", laid(last{1, 1, "a"}, last{1, 2, "b"}), api.ErrForm)
	refused(t, "one that has not asked", laid(last{1, 0, ""}), api.ErrForm)
	refused(t, "one more that has not asked", laid(last{1, 1, "a"}, last{2, 0, "b"}), api.ErrForm)
	refused(t, "falling, and cut off", "\x02\x04\x01\x01a\x02\x01", api.ErrCut)
}

// Promise 15.2: behind an error of the reader nothing is taken, and it stays.
func TestTakeBehindAnError(t *testing.T) {
	for _, s := range []string{"", "\x00", laid(some()...)} {
		r := wire.NewReader(s)
		r.Fail(api.ErrOld)
		if got := sess.Take(r); got != nil || r.Err() != api.ErrOld || r.At() != 0 {
			t.Errorf("%q: %v with error %d, %d bytes taken", s, got, r.Err(), r.At())
		}
	}
	if got := sess.Take(nil); got != nil {
		t.Errorf("a nil reader: %v", got)
	}
}
