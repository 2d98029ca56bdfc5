package mut

import (
	"cohort/api"
	"cohort/wire"
)

// Put puts requests.
func Put(w *wire.Writer, l []api.Mutation) {
	w.Count(len(l))
	for _, m := range l {
		w.Count(m.Kind)
		w.Signed(m.ID)
		w.Signed(m.To)
		w.Signed(m.V)
	}
}

// Take takes requests: none, if the reader has an error, then or ahead. One that may not be is such an error.
func Take(r *wire.Reader) []api.Mutation {
	var l []api.Mutation
	for range r.Count(api.MaxSent) {
		m := api.Mutation{Kind: r.Count(api.MutAddEdge), ID: r.Signed(), To: r.Signed(), V: r.Signed()}
		if !Check(m) {
			// A reader that came to an error in the request keeps that one.
			r.Fail(api.ErrForm)
		}
		if r.Err() != api.OK {
			return nil
		}
		l = append(l, m)
	}
	return l
}
