package sess

import (
	"cohort/api"
	"cohort/wire"
)

// most is the greatest number of a request in bytes.
const most = 1<<31 - 1

// Put puts all sessions.
func (t *Table) Put(w *wire.Writer) {
	w.Count(t.Len())
	if t == nil {
		return
	}
	for _, a := range t.list {
		w.Signed(a.session)
		w.Count(a.seq)
		w.Text(a.told)
	}
}

// Take takes all sessions.
func Take(r *wire.Reader) *Table {
	t := New()
	for range r.Count(api.MaxSessions) {
		a := asked{session: r.Signed(), seq: r.Count(most), told: r.Text()}
		if !t.follows(a) {
			// A reader that came to an error in the session keeps that one.
			r.Fail(api.ErrForm)
		}
		t.list = append(t.list, a)
	}
	if r.Err() != api.OK {
		return nil
	}
	return t
}

// follows tells whether a session may be put behind all others: a table has one form alone, and a session has asked at least once.
func (t *Table) follows(a asked) bool {
	n := len(t.list)
	return a.seq > 0 && (n == 0 || t.list[n-1].session < a.session)
}
