package sess_test

import (
	"math"
	"testing"

	"cohort/api"
	"cohort/sess"
)

// Promise 15.1: a session that is not there may ask for 1 alone.
func TestLookOfNoSession(t *testing.T) {
	x := sess.New()
	for _, session := range []int64{0, 1, -1, 7, greatest, least} {
		for _, c := range []struct {
			seq int
			e   api.Errno
		}{{math.MinInt, api.ErrArg}, {-1, api.ErrArg}, {0, api.ErrArg}, {1, api.OK}, {2, api.ErrGap}, {3, api.ErrGap}, {most, api.ErrGap}, {most + 1, api.ErrGap}, {math.MaxInt, api.ErrGap}} {
			want(t, "no session", look(x, session, c.seq), answer{"", false, c.e})
		}
	}
	holds(t, "behind asking alone", x)
}

// Promise 15.1: below 1, behind the last one, the last one, the next one, and beyond it, at each edge.
func TestLookOfASession(t *testing.T) {
	for _, n := range []int{1, 2, 3, 10} {
		x := sess.New()
		for seq := range n {
			must(t, x, -5, seq+1, string(rune('a'+seq)))
		}
		for seq := -3; seq < n+5; seq++ {
			w := answer{e: api.ErrGap}
			switch {
			case seq < 1:
				w = answer{e: api.ErrArg}
			case seq < n:
				w = answer{e: api.ErrOld}
			case seq == n:
				w = answer{string(rune('a' + n - 1)), true, api.OK}
			case seq == n+1:
				w = answer{}
			}
			want(t, "a session", look(x, -5, seq), w)
		}
		want(t, "the least", look(x, -5, math.MinInt), answer{e: api.ErrArg})
		want(t, "the greatest", look(x, -5, math.MaxInt), answer{e: api.ErrGap})
		holds(t, "behind looking", x, last{-5, n, string(rune('a' + n - 1))})
	}
}

// Promise 15.1: what the last one was told may be nothing; it was told all the same.
func TestLookOfNothingTold(t *testing.T) {
	x := sess.New()
	must(t, x, 3, 1, "")
	want(t, "an empty text", look(x, 3, 1), answer{"", true, api.OK})
	must(t, x, 3, 2, "x")
	must(t, x, 3, 3, "")
	want(t, "an empty text behind another", look(x, 3, 3), answer{"", true, api.OK})
}

// Promise 15.1: sessions know nothing of one another.
func TestLookOfOthers(t *testing.T) {
	x := sess.New()
	must(t, x, 1, 1, "a")
	must(t, x, 1, 2, "b")
	must(t, x, -1, 1, "c")
	want(t, "one", look(x, 1, 1), answer{e: api.ErrOld})
	want(t, "another", look(x, -1, 1), answer{"c", true, api.OK})
	want(t, "another's next", look(x, -1, 2), answer{})
	want(t, "a third", look(x, 0, 2), answer{e: api.ErrGap})
	want(t, "a third's first", look(x, 0, 1), answer{})
}

// Promise 15.1: ErrMany of a session that is not there, when there are MaxSessions; all other errors are told ahead of it.
func TestLookWithoutRoom(t *testing.T) {
	x := full(t)
	for _, session := range []int64{-1, 1, 9, 11, 10*api.MaxSessions - 1, 10 * api.MaxSessions, greatest, least} {
		want(t, "below 1", look(x, session, 0), answer{e: api.ErrArg})
		want(t, "the first one", look(x, session, 1), answer{e: api.ErrMany})
		want(t, "beyond the first one", look(x, session, 2), answer{e: api.ErrGap})
	}
	for i := range int64(api.MaxSessions) {
		want(t, "below 1, of one that is there", look(x, 10*i, 0), answer{e: api.ErrArg})
		want(t, "the last one, of one that is there", look(x, 10*i, 1), answer{"of one", true, api.OK})
		want(t, "the next one, of one that is there", look(x, 10*i, 2), answer{})
		want(t, "beyond, of one that is there", look(x, 10*i, 3), answer{e: api.ErrGap})
	}
	if x.Len() != api.MaxSessions {
		t.Errorf("%d sessions", x.Len())
	}
}

// Promise 15.1: with room for one more there is no such error.
func TestLookWithRoomForOne(t *testing.T) {
	x := sess.New()
	for i := range int64(api.MaxSessions - 1) {
		must(t, x, i, 1, "")
	}
	want(t, "the last that there is room for", look(x, -1, 1), answer{})
	must(t, x, -1, 1, "")
	want(t, "one more", look(x, -2, 1), answer{e: api.ErrMany})
}

// Promise 15.1: the greatest request that a table can be taken with has a next one, as any other has.
func TestLookAtTheGreatest(t *testing.T) {
	x := has(t, last{4, most, "z"})
	want(t, "the greatest", look(x, 4, most), answer{"z", true, api.OK})
	want(t, "below it", look(x, 4, most-1), answer{e: api.ErrOld})
	want(t, "the next one", look(x, 4, most+1), answer{})
	want(t, "beyond the next one", look(x, 4, most+2), answer{e: api.ErrGap})
	want(t, "far beyond", look(x, 4, math.MaxInt), answer{e: api.ErrGap})
}

// Promise 15.2: a nil table tells ErrArg, whatever it is asked, and has nothing; one that nobody made is as New has it.
func TestNilTable(t *testing.T) {
	var x *sess.Table
	for _, seq := range []int{math.MinInt, 0, 1, 2, math.MaxInt} {
		n := 0
		want(t, "Look", look(x, 1, seq), answer{e: api.ErrArg})
		want(t, "Do", do(x, 1, seq, saying("a", &n)), answer{e: api.ErrArg})
		want(t, "Do of nothing", do(x, 1, seq, nil), answer{e: api.ErrArg})
		if n != 0 {
			t.Error("it was done")
		}
	}
	if x.Seq(0) != 0 || x.Seq(1) != 0 || x.Len() != 0 {
		t.Error("it has sessions")
	}
	if got := put(x); got != "\x00" {
		t.Errorf("it is put as %q", got)
	}
	x.Put(nil)

	y := &sess.Table{}
	want(t, "Look of an empty one", look(y, 1, 1), answer{})
	holds(t, "an empty one", y)
	must(t, y, 1, 1, "a")
	holds(t, "an empty one behind a request", y, last{1, 1, "a"})
}
