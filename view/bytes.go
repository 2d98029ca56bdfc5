package view

import (
	"cohort/api"
	"cohort/wire"
)

// Check tells whether a message may be for a master among so many.
func Check(m api.ViewMsg, all int) bool {
	if m.Kind < api.ViewPrepare || m.Kind > api.ViewAsk {
		return false
	}
	if m.From < 0 || m.From >= all || m.To < 0 || m.To >= all || m.From == m.To {
		return false
	}
	for _, x := range []int{m.View, m.Normal, m.Index, m.Commit, m.BaseIndex, m.BaseView} {
		if !isNumber(x) {
			return false
		}
	}
	many := api.MaxEntries
	if m.Kind == api.ViewPrepare {
		many = maxPrepared
	}
	return m.Normal <= m.View && len(m.Entries) <= many
}

// Put puts a message.
func Put(w *wire.Writer, m api.ViewMsg) {
	for _, x := range []int{m.Kind, m.From, m.To, m.View, m.Normal, m.Index, m.Commit, m.BaseIndex, m.BaseView} {
		w.Count(x)
	}
	w.Text(m.Base)
	w.Count(len(m.Entries))
	for _, e := range m.Entries {
		PutEntry(w, e)
	}
}

// Take takes a message.
func Take(r *wire.Reader) api.ViewMsg {
	m := api.ViewMsg{Kind: r.Count(most), From: r.Count(most), To: r.Count(most), View: r.Count(most)}
	m.Normal, m.Index, m.Commit = r.Count(most), r.Count(most), r.Count(most)
	m.BaseIndex, m.BaseView, m.Base = r.Count(most), r.Count(most), r.Text()
	for range r.Count(api.MaxEntries) {
		m.Entries = append(m.Entries, TakeEntry(r))
	}
	if r.Err() != api.OK {
		return api.ViewMsg{}
	}
	return m
}

// PutEntry puts an entry.
func PutEntry(w *wire.Writer, e api.LogEntry) {
	w.Count(e.View)
	w.Text(e.S)
}

// TakeEntry takes an entry.
func TakeEntry(r *wire.Reader) api.LogEntry {
	e := api.LogEntry{View: r.Count(most), S: r.Text()}
	if r.Err() != api.OK {
		return api.LogEntry{}
	}
	return e
}
