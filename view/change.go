package view

import (
	"cohort/api"
)

// Tick lets a tick pass.
func (n *Node) Tick() []api.ViewMsg {
	if n.isNone() {
		return nil
	}
	n.ticks++
	if n.Role() == api.Leader {
		return n.speak()
	}
	if n.ticks < n.patience() || n.hard.View == most {
		return nil
	}
	return n.goOver(n.hard.View + 1)
}

// speak lets the others hear of their leader, when it is time.
func (n *Node) speak() []api.ViewMsg {
	if n.ticks < leaderTicks {
		return nil
	}
	n.ticks = 0
	return n.toOthers(n.prepare)
}

// patience is how many ticks it waits for its leader.
func (n *Node) patience() int {
	return minPatience + (7*n.me+3*n.hard.View)%morePatience
}

// goOver goes over to a later view.
func (n *Node) goOver(view int) []api.ViewMsg {
	n.hard.View = view
	n.forget()
	return append(n.toOthers(n.want), n.give()...)
}

// reach goes over to a view, if it is a later one.
func (n *Node) reach(view int) []api.ViewMsg {
	if view <= n.hard.View {
		return nil
	}
	return n.goOver(view)
}

// give gives what it has to who leads its view, which has not begun: once, when more than half want that.
func (n *Node) give() []api.ViewMsg {
	if n.heard.gave || !n.isMost(len(n.heard.wants)) {
		return nil
	}
	n.heard.gave = true
	if n.isNext() {
		return n.lead()
	}
	return []api.ViewMsg{n.tellAll(api.ViewGive, n.leaderOf(n.hard.View))}
}

// lead begins its own view, when it gave and more than half did. With what was gathered it forgets that it gave, so that a view begins once.
func (n *Node) lead() []api.ViewMsg {
	if !n.heard.gave || !n.isMost(1+len(n.heard.given)) {
		return nil
	}
	best := n.tellAll(api.ViewGive, n.me)
	commit := n.commit
	for i := range n.all {
		m, ok := n.heard.given[i]
		if ok && isAhead(m, best) {
			best = m
		}
		commit = max(commit, m.Commit)
	}
	n.takeLog(best)
	n.hard.Normal = n.hard.View
	n.commit = max(n.commit, min(commit, n.last()))
	n.had = n.last()
	n.forget()
	return n.toOthers(n.begin)
}

// isAhead tells whether one that was given goes ahead of another one.
func isAhead(m, of api.ViewMsg) bool {
	return m.Normal > of.Normal || m.Normal == of.Normal && m.Index > of.Index
}
