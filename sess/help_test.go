package sess_test

import (
	"math"
	"slices"
	"testing"

	"cohort/api"
	"cohort/sess"
	"cohort/wire"
)

const (
	least    = math.MinInt64
	greatest = math.MaxInt64
	most     = 1<<31 - 1 // the greatest request in bytes
)

// answer is what Look and Do tell.
type answer struct {
	told string
	ok   bool
	e    api.Errno
}

func look(t *sess.Table, session int64, seq int) answer {
	told, ok, e := t.Look(session, seq)
	return answer{told, ok, e}
}

func do(t *sess.Table, session int64, seq int, f func() string) answer {
	told, ok, e := t.Do(session, seq, f)
	return answer{told, ok, e}
}

// saying is a function that tells a text, and counts how often it was done.
func saying(s string, n *int) func() string {
	return func() string {
		*n++
		return s
	}
}

// want holds an answer against what it must be.
func want(t *testing.T, what string, got, want answer) {
	t.Helper()
	if got != want {
		t.Errorf("%s: %v, not %v", what, got, want)
	}
}

// must does a request that is the next one of its session.
func must(t *testing.T, x *sess.Table, session int64, seq int, s string) {
	t.Helper()
	n := 0
	want(t, "the next request", do(x, session, seq, saying(s, &n)), answer{s, true, api.OK})
	if n != 1 {
		t.Errorf("%d of session %d was done %d times", seq, session, n)
	}
}

// put is the bytes of a table.
func put(x *sess.Table) string {
	w := wire.NewWriter()
	x.Put(w)
	return w.All()
}

// last is a session's last request, and what it was told.
type last struct {
	session int64
	seq     int
	told    string
}

// laid is the bytes that the document gives to sessions, as they are handed in.
func laid(l ...last) string {
	s := wire.Number(uint64(len(l)))
	for _, a := range l {
		s += wire.Number(wire.Fold(a.session)) + wire.Number(uint64(a.seq)) + wire.Number(uint64(len(a.told))) + a.told
	}
	return s
}

// has takes a table out of bytes that may be.
func has(t *testing.T, l ...last) *sess.Table {
	t.Helper()
	r := wire.NewReader(laid(l...))
	x := sess.Take(r)
	if x == nil || r.End() != api.OK {
		t.Fatalf("%q is no table: error %d", laid(l...), r.Err())
	}
	return x
}

// full is a table with as many sessions as there may be: 0, 10, 20 .., each with one request.
func full(t *testing.T) *sess.Table {
	t.Helper()
	x := sess.New()
	for i := range int64(api.MaxSessions) {
		must(t, x, 10*i, 1, "of one")
	}
	return x
}

// holds tells whether a table is of just these sessions, as all of its calls have it.
func holds(t *testing.T, what string, x *sess.Table, l ...last) {
	t.Helper()
	if x.Len() != len(l) {
		t.Errorf("%s: %d sessions, not %d", what, x.Len(), len(l))
	}
	for _, a := range l {
		if got := x.Seq(a.session); got != a.seq {
			t.Errorf("%s: the last request of session %d is %d, not %d", what, a.session, got, a.seq)
		}
		want(t, what+": the last request", look(x, a.session, a.seq), answer{a.told, true, api.OK})
	}
	l = slices.Clone(l)
	slices.SortFunc(l, func(a, b last) int {
		if a.session < b.session {
			return -1
		}
		return 1
	})
	if got := put(x); got != laid(l...) {
		t.Errorf("%s: put as %q, not %q", what, got, laid(l...))
	}
}
