package sess_test

import (
	"math"
	"testing"

	"cohort/api"
	"cohort/sess"
)

// Promise 15.1, the example: Do(1, 1) twice: done once, told the same.
func TestExample(t *testing.T) {
	x, n := sess.New(), 0
	want(t, "once", do(x, 1, 1, saying("a", &n)), answer{"a", true, api.OK})
	want(t, "twice", do(x, 1, 1, saying("b", &n)), answer{"a", false, api.OK})
	if n != 1 {
		t.Errorf("it was done %d times", n)
	}
}

// Promise 15.1: one request behind the other, of sessions of any number; each is done once, told, and kept as the last one.
func TestDoOneByOne(t *testing.T) {
	x := sess.New()
	all := []int64{0, 5, -5, greatest, least, 1 << 40, -1 << 40}
	var l []last
	for _, session := range all {
		if x.Seq(session) != 0 {
			t.Errorf("session %d asked ahead of being there", session)
		}
		must(t, x, session, 1, "first")
		l = append(l, last{session, 1, "first"})
		holds(t, "behind a first request", x, l...)
	}
	for seq := 2; seq < 30; seq++ {
		for i, session := range all {
			s := string(rune('a'+i)) + string(rune('A'+seq))
			must(t, x, session, seq, s)
			l[i] = last{session, seq, s}
			holds(t, "behind the next request", x, l...)
		}
	}
}

// Promise 15.1: the last one again is told again, and false, and not done, even if there is nothing to do.
func TestDoAgain(t *testing.T) {
	x, n := sess.New(), 0
	for seq := 1; seq < 5; seq++ {
		s := string(rune('a' + seq))
		must(t, x, -8, seq, s)
		for range 3 {
			want(t, "again", do(x, -8, seq, saying("other", &n)), answer{s, false, api.OK})
			want(t, "again, by nobody", do(x, -8, seq, nil), answer{s, false, api.OK})
		}
		holds(t, "behind asking again", x, last{-8, seq, s})
	}
	if n != 0 {
		t.Errorf("done %d times more", n)
	}
}

// Promise 15.1: with each of Look's errors nothing is done, by a function or by none.
func TestDoWithErrors(t *testing.T) {
	some := sess.New()
	for seq := range 3 {
		must(t, some, 20, seq+1, "c")
	}
	for _, c := range []struct {
		what    string
		x       *sess.Table
		session int64
		seq     int
		e       api.Errno
	}{
		{"the least", some, 20, math.MinInt, api.ErrArg},
		{"below 1", some, 20, 0, api.ErrArg},
		{"below 1, of none", some, 21, 0, api.ErrArg},
		{"old", some, 20, 1, api.ErrOld},
		{"just old", some, 20, 2, api.ErrOld},
		{"just beyond", some, 20, 5, api.ErrGap},
		{"the greatest", some, 20, math.MaxInt, api.ErrGap},
		{"beyond, of none", some, 21, 2, api.ErrGap},
		{"no room", full(t), 21, 1, api.ErrMany},
		{"no room, and beyond", full(t), 21, 2, api.ErrGap},
		{"no room, and below 1", full(t), 21, 0, api.ErrArg},
	} {
		before, n := put(c.x), 0
		want(t, c.what, do(c.x, c.session, c.seq, saying("no", &n)), answer{e: c.e})
		want(t, c.what+", by nobody", do(c.x, c.session, c.seq, nil), answer{e: c.e})
		if n != 0 || put(c.x) != before {
			t.Errorf("%s: done %d times, and it is %q, not %q", c.what, n, put(c.x), before)
		}
	}
}

// Promise 15.1: the next one with a nil function: ErrArg, and it is the next one still.
func TestDoNothing(t *testing.T) {
	x := sess.New()
	want(t, "no function, of none", do(x, 2, 1, nil), answer{e: api.ErrArg})
	holds(t, "behind that", x)
	must(t, x, 2, 1, "a")
	want(t, "no function", do(x, 2, 2, nil), answer{e: api.ErrArg})
	holds(t, "behind that", x, last{2, 1, "a"})
	must(t, x, 2, 2, "b")
	y := full(t)
	want(t, "no function, no room", do(y, 10, 2, nil), answer{e: api.ErrArg})
	must(t, y, 10, 2, "b")
}

// Promise 15.1: those that are there go on where there is no room for others.
func TestDoWithoutRoom(t *testing.T) {
	x := full(t)
	for seq := 2; seq < 4; seq++ {
		for i := range int64(api.MaxSessions) {
			must(t, x, 10*i, seq, "more")
		}
	}
	if x.Len() != api.MaxSessions || x.Seq(10) != 3 || x.Seq(11) != 0 {
		t.Errorf("%d sessions, %d and %d", x.Len(), x.Seq(10), x.Seq(11))
	}
	n := 0
	want(t, "another one", do(x, 5, 1, saying("no", &n)), answer{e: api.ErrMany})
	if n != 0 || x.Len() != api.MaxSessions {
		t.Errorf("done %d times, %d sessions", n, x.Len())
	}
}

// Promise 15.1 and rule R1: a function that panics does not take the call with it, and the request is the next one still.
func TestDoOfAPanic(t *testing.T) {
	x := sess.New()
	fall := func() string { panic("no") }
	want(t, "a panic, of none", do(x, 6, 1, fall), answer{e: api.ErrArg})
	holds(t, "behind it", x)
	must(t, x, 6, 1, "a")
	must(t, x, 7, 1, "b")
	want(t, "a panic", do(x, 6, 2, fall), answer{e: api.ErrArg})
	holds(t, "behind it", x, last{6, 1, "a"}, last{7, 1, "b"})
	must(t, x, 6, 2, "c")
	holds(t, "once it was done", x, last{6, 2, "c"}, last{7, 1, "b"})
}

// Promise 15.1: a request is done once, even if what is done asks for it again.
func TestDoWithin(t *testing.T) {
	x, n := sess.New(), 0
	var again func() string
	again = func() string {
		n++
		want(t, "the same, within it", do(x, 1, 1, again), answer{"", false, api.OK})
		return "a"
	}
	want(t, "all of it", do(x, 1, 1, again), answer{"a", true, api.OK})
	if n != 1 {
		t.Errorf("done %d times", n)
	}
	holds(t, "behind it", x, last{1, 1, "a"})
}

// Promise 15.1: what is done may ask for others; a later request of its session stays the last one.
func TestDoOthersWithin(t *testing.T) {
	for _, falls := range []int{0, 1} {
		x := sess.New()
		within := func() string {
			must(t, x, 1, 2, "next")
			must(t, x, 0, 1, "other")
			must(t, x, 2, 1, "other")
			if falls == 1 {
				panic("no")
			}
			return "a"
		}
		w := answer{"a", true, api.OK}
		if falls == 1 {
			w = answer{e: api.ErrArg}
		}
		want(t, "with others", do(x, 1, 1, within), w)
		holds(t, "behind it", x, last{1, 2, "next"}, last{0, 1, "other"}, last{2, 1, "other"})
	}
}

// Promise 15.1: what is done can't bring more sessions than there may be.
func TestDoManyWithin(t *testing.T) {
	x := sess.New()
	for i := range int64(api.MaxSessions - 1) {
		must(t, x, i, 1, "")
	}
	n := 0
	within := func() string {
		want(t, "one more", do(x, -2, 1, saying("no", &n)), answer{e: api.ErrMany})
		return "a"
	}
	want(t, "the last that there is room for", do(x, -1, 1, within), answer{"a", true, api.OK})
	if n != 0 || x.Len() != api.MaxSessions {
		t.Errorf("done %d times, %d sessions", n, x.Len())
	}
}
