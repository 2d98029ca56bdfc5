package view

import (
	"cohort/api"
)

// Step takes a message.
func (n *Node) Step(m api.ViewMsg) []api.ViewMsg {
	if n.isNone() || !Check(m, n.all) || m.To != n.me || m.View < n.hard.View {
		return nil
	}
	return n.kinds[m.Kind](m)
}

func (n *Node) takeWant(m api.ViewMsg) []api.ViewMsg {
	out := n.reach(m.View)
	if n.begun() {
		return n.takeAsk(m)
	}
	n.heard.wants[m.From] = struct{}{}
	return append(out, n.give()...)
}

func (n *Node) takeGive(m api.ViewMsg) []api.ViewMsg {
	out := n.reach(m.View)
	if n.begun() || !n.isNext() {
		return append(out, n.takeAsk(m)...)
	}
	if isWhole(m) {
		m.Entries = cut(m.Entries, 0, len(m.Entries))
		n.heard.given[m.From] = m
	}
	n.heard.wants[m.From] = struct{}{}
	out = append(out, n.give()...)
	return append(out, n.lead()...)
}

func (n *Node) takeAsk(m api.ViewMsg) []api.ViewMsg {
	if n.Role() != api.Leader || m.View != n.hard.View {
		return nil
	}
	return []api.ViewMsg{n.begin(m.From)}
}

func (n *Node) takeBegin(m api.ViewMsg) []api.ViewMsg {
	if m.From != n.leaderOf(m.View) {
		return nil
	}
	if m.View == n.hard.View && n.begun() {
		if m.Index > n.last() {
			n.takeLog(m)
		}
		return n.follow(m)
	}
	if !n.takeLog(m) {
		return nil
	}
	n.hard.View, n.hard.Normal = m.View, m.View
	n.forget()
	return n.follow(m)
}

func (n *Node) takePrepare(m api.ViewMsg) []api.ViewMsg {
	if m.From != n.leaderOf(m.View) {
		return nil
	}
	if m.View != n.hard.View || !n.begun() || m.Index > n.last() {
		ask := n.tell(api.ViewAsk, m.From)
		ask.View = m.View // the leader would not hear of a lesser one
		return []api.ViewMsg{ask}
	}
	known := min(n.last()-m.Index, len(m.Entries))
	if more := m.Entries[known:]; len(n.hard.Log)+len(more) <= api.MaxEntries {
		n.hard.Log = append(n.hard.Log, more...)
	}
	return n.follow(m)
}

// follow goes along with who leads its view, as far as its log goes.
func (n *Node) follow(m api.ViewMsg) []api.ViewMsg {
	n.ticks = 0
	n.commit = max(n.commit, min(m.Commit, n.last()))
	ok := n.tell(api.ViewOk, m.From)
	ok.Index = n.last()
	return []api.ViewMsg{ok}
}

func (n *Node) takeOk(m api.ViewMsg) []api.ViewMsg {
	if n.Role() != api.Leader || m.View != n.hard.View {
		return nil
	}
	at := max(n.heard.upTo[m.From], min(m.Index, n.last()))
	n.heard.upTo[m.From] = at
	n.countCommitted()
	if at == n.last() {
		return nil
	}
	return []api.ViewMsg{n.prepare(m.From)}
}
