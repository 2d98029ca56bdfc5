package view

import (
	"slices"

	"cohort/api"
)

// cut is a piece of a list of entries, as a list of its own without spare room.
func cut(l []api.LogEntry, from, to int) []api.LogEntry {
	return append([]api.LogEntry(nil), l[from:to:to]...)
}

// last is the index of the last entry.
func (n *Node) last() int {
	return n.hard.BaseIndex + len(n.hard.Log)
}

// at is the entry of an index, which must be behind the snapshot and not above the last.
func (n *Node) at(index int) api.LogEntry {
	return n.hard.Log[index-n.hard.BaseIndex-1]
}

// Entry is an entry that is committed.
func (n *Node) Entry(index int) (api.LogEntry, bool) {
	if n.isNone() || index <= n.hard.BaseIndex || index > n.commit {
		return api.LogEntry{}, false
	}
	return n.at(index), true
}

// Compact lays a snapshot of what is committed up to an index.
func (n *Node) Compact(index int, s string) bool {
	e, ok := n.Entry(index)
	if !ok {
		return false
	}
	// A list of its own, so that the entries that are gone are not kept.
	n.hard.Log = cut(n.hard.Log, index-n.hard.BaseIndex, len(n.hard.Log))
	n.hard.BaseIndex, n.hard.BaseView, n.hard.Base = index, e.View, s
	return true
}

// Propose puts an entry, if it leads: its index.
func (n *Node) Propose(s string) (int, []api.ViewMsg, bool) {
	if n.Role() != api.Leader || len(n.hard.Log) >= api.MaxEntries {
		return 0, nil, false
	}
	n.hard.Log = append(n.hard.Log, api.LogEntry{View: n.hard.View, S: s})
	n.countCommitted()
	n.ticks = 0
	return n.last(), n.toOthers(n.prepare), true
}

// countCommitted takes as committed what more than half have. One that is alone is more than half.
func (n *Node) countCommitted() {
	far := make([]int, n.all)
	for i, at := range n.heard.upTo {
		far[i] = at
	}
	far[n.me] = n.last()
	slices.Sort(far)
	n.commit = max(n.commit, far[(n.all-1)/2])
}

// isWhole tells whether a message's Index is that of the last of its log.
func isWhole(m api.ViewMsg) bool {
	return m.Index == m.BaseIndex+len(m.Entries)
}

// takeLog takes a message's log, if that may be.
func (n *Node) takeLog(m api.ViewMsg) bool {
	if !isWhole(m) || m.Index < n.commit || n.isAgainst(m) {
		return false
	}
	from := n.hard.BaseIndex - m.BaseIndex
	if from < 0 {
		from = 0
		n.hard.BaseIndex, n.hard.BaseView, n.hard.Base = m.BaseIndex, m.BaseView, m.Base
		n.commit = max(n.commit, m.BaseIndex) // a snapshot is of what is committed
	}
	n.hard.Log = cut(m.Entries, from, len(m.Entries))
	return true
}

// isAgainst tells whether a log has another entry where one is committed here. It goes up to what is committed here at least.
func (n *Node) isAgainst(m api.ViewMsg) bool {
	for i := max(m.BaseIndex, n.hard.BaseIndex) + 1; i <= n.commit; i++ {
		if m.Entries[i-m.BaseIndex-1] != n.at(i) {
			return true
		}
	}
	return false
}
