package view

import (
	"cohort/api"
)

// maxPrepared is how many entries one ViewPrepare has at most.
const maxPrepared = 16

// tell is a message of its view with nothing more.
func (n *Node) tell(kind, to int) api.ViewMsg {
	return api.ViewMsg{Kind: kind, From: n.me, To: to, View: n.hard.View}
}

// tellAll is a message with all that it has.
func (n *Node) tellAll(kind, to int) api.ViewMsg {
	m := n.tell(kind, to)
	m.Normal, m.Index, m.Commit = n.hard.Normal, n.last(), n.commit
	m.BaseIndex, m.BaseView, m.Base = n.hard.BaseIndex, n.hard.BaseView, n.hard.Base
	m.Entries = cut(n.hard.Log, 0, len(n.hard.Log))
	return m
}

func (n *Node) want(to int) api.ViewMsg {
	return n.tell(api.ViewWant, to)
}

func (n *Node) begin(to int) api.ViewMsg {
	return n.tellAll(api.ViewBegin, to)
}

// prepare is what a leader tells one that it has the log, and of what it lacks.
func (n *Node) prepare(to int) api.ViewMsg {
	m := n.tell(api.ViewPrepare, to)
	m.Index, m.Commit = n.last(), n.commit
	if at, known := n.heard.upTo[to]; known && at >= n.hard.BaseIndex {
		m.Index = at
	}
	from := m.Index - n.hard.BaseIndex
	m.Entries = cut(n.hard.Log, from, min(from+maxPrepared, len(n.hard.Log)))
	return m
}

// toOthers tells each other one something.
func (n *Node) toOthers(what func(to int) api.ViewMsg) []api.ViewMsg {
	var out []api.ViewMsg
	for i := range n.all {
		if i != n.me {
			out = append(out, what(i))
		}
	}
	return out
}
