package comb

import (
	"cohort/api"
	"cohort/wire"
)

// PutMessages puts messages.
func PutMessages(w *wire.Writer, l []api.Message) {
	w.Count(len(l))
	for _, m := range l {
		w.Signed(m.From)
		w.Signed(m.To)
		w.Count(m.At)
		w.Signed(m.V)
	}
}

// TakeMessages takes messages: none, if the reader has an error, then or ahead.
func TakeMessages(r *wire.Reader) []api.Message {
	var l []api.Message
	for range r.Count(api.MaxSent) {
		m := api.Message{From: r.Signed(), To: r.Signed(), At: r.Count(api.MaxSent), V: r.Signed()}
		if r.Err() != api.OK {
			return nil
		}
		l = append(l, m)
	}
	return l
}
