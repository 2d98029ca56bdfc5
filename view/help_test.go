package view_test

import (
	"fmt"
	"reflect"
	"strings"
	"testing"

	"cohort/api"
	"cohort/view"
)

// most is the greatest view and index.
const most = 1<<31 - 1

// log is entries, each written as the digit of its view and its text.
func log(l ...string) []api.LogEntry {
	var out []api.LogEntry
	for _, s := range l {
		out = append(out, api.LogEntry{View: int(s[0] - '0'), S: s[1:]})
	}
	return out
}

// many is so many entries of view 0, whose texts are their indices.
func many(first, n int) []api.LogEntry {
	var out []api.LogEntry
	for i := range n {
		out = append(out, api.LogEntry{S: fmt.Sprint(first + i)})
	}
	return out
}

// hard is what is kept without a snapshot.
func hard(of, normal int, l ...string) api.Hard {
	return api.Hard{View: of, Normal: normal, Log: log(l...)}
}

// based is what is kept behind a snapshot.
func based(of, normal, index, baseView int, base string, l ...string) api.Hard {
	return api.Hard{View: of, Normal: normal, BaseIndex: index, BaseView: baseView, Base: base, Log: log(l...)}
}

// stand is a master that stands up.
func stand(t *testing.T, me, all int, h api.Hard) *view.Node {
	t.Helper()
	n, e := view.New(me, all, h)
	if e != api.OK || n == nil {
		t.Fatalf("New(%d, %d, %v): error %d", me, all, h, e)
	}
	return n
}

// bare is a message with nothing beside its view.
func bare(kind, from, to, of int) api.ViewMsg {
	return api.ViewMsg{Kind: kind, From: from, To: to, View: of}
}

func want(from, to, of int) api.ViewMsg { return bare(api.ViewWant, from, to, of) }
func ask(from, to, of int) api.ViewMsg  { return bare(api.ViewAsk, from, to, of) }

func okay(from, to, of, index int) api.ViewMsg {
	m := bare(api.ViewOk, from, to, of)
	m.Index = index
	return m
}

func prepare(from, to, of, index, commit int, l ...api.LogEntry) api.ViewMsg {
	m := bare(api.ViewPrepare, from, to, of)
	m.Index, m.Commit, m.Entries = index, commit, l
	return m
}

// whole is a message with all that one has that kept that.
func whole(kind, from, to, commit int, h api.Hard) api.ViewMsg {
	return api.ViewMsg{Kind: kind, From: from, To: to, View: h.View, Normal: h.Normal, Index: h.BaseIndex + len(h.Log), Commit: commit,
		BaseIndex: h.BaseIndex, BaseView: h.BaseView, Base: h.Base, Entries: h.Log}
}

func give(from, to, commit int, h api.Hard) api.ViewMsg {
	return whole(api.ViewGive, from, to, commit, h)
}
func begin(from, to, commit int, h api.Hard) api.ViewMsg {
	return whole(api.ViewBegin, from, to, commit, h)
}

// msgs is what is told.
func msgs(l ...api.ViewMsg) []api.ViewMsg { return l }

// show is messages in brief.
func show(l []api.ViewMsg) string {
	names := []string{"?", "Prepare", "Ok", "Want", "Give", "Begin", "Ask"}
	var b strings.Builder
	for _, m := range l {
		name := fmt.Sprint(m.Kind)
		if m.Kind > 0 && m.Kind < len(names) {
			name = names[m.Kind]
		}
		fmt.Fprintf(&b, "\n  %s %d->%d view %d normal %d index %d commit %d base %d of %d %q, %d entries", name, m.From, m.To, m.View, m.Normal, m.Index, m.Commit, m.BaseIndex, m.BaseView, m.Base, len(m.Entries))
		if len(m.Entries) < 20 {
			fmt.Fprintf(&b, " %v", m.Entries)
		}
	}
	return b.String()
}

// sameMsgs holds messages against each other; an empty list is as none.
func sameMsgs(a, b []api.ViewMsg) bool {
	if len(a) != len(b) {
		return false
	}
	for i := range a {
		x, y := a[i], b[i]
		if len(x.Entries) == 0 && len(y.Entries) == 0 {
			x.Entries, y.Entries = nil, nil
		}
		if !reflect.DeepEqual(x, y) {
			return false
		}
	}
	return true
}

// sameHard holds what is kept against each other.
func sameHard(a, b api.Hard) bool {
	if len(a.Log) == 0 && len(b.Log) == 0 {
		a.Log, b.Log = nil, nil
	}
	return reflect.DeepEqual(a, b)
}

// told is that just some messages were told.
func told(t *testing.T, what string, got []api.ViewMsg, wanted ...api.ViewMsg) {
	t.Helper()
	if !sameMsgs(got, wanted) {
		t.Fatalf("%s: told%s\nand not%s", what, show(got), show(wanted))
	}
}

// has is that a master keeps something, and has so much committed.
func has(t *testing.T, what string, n *view.Node, h api.Hard, commit int) {
	t.Helper()
	if !sameHard(n.Hard(), h) {
		t.Fatalf("%s: keeps %v, and not %v", what, n.Hard(), h)
	}
	if n.Commit() != commit {
		t.Fatalf("%s: %d is committed, and not %d", what, n.Commit(), commit)
	}
	if n.View() != h.View {
		t.Fatalf("%s: View tells %d, and keeps %d", what, n.View(), h.View)
	}
	entries(t, what, n, h, commit)
}

// entries is that Entry tells just what is committed and behind the snapshot.
func entries(t *testing.T, what string, n *view.Node, h api.Hard, commit int) {
	t.Helper()
	last := h.BaseIndex + len(h.Log)
	for _, i := range []int{-1 << 63, -most, -1, 0, 1, h.BaseIndex - 1, h.BaseIndex, h.BaseIndex + 1, h.BaseIndex + 2, commit - 1, commit, commit + 1, last - 1, last, last + 1, most, most + 1, 1<<63 - 1} {
		e, ok := n.Entry(i)
		var should api.LogEntry
		is := i > h.BaseIndex && i <= commit
		if is {
			should = h.Log[i-h.BaseIndex-1]
		}
		if ok != is || e != should {
			t.Fatalf("%s: Entry(%d) tells %v, %t, and not %v, %t", what, i, e, ok, should, is)
		}
	}
}

// is is that a master has a role, and knows who leads.
func is(t *testing.T, what string, n *view.Node, role, leader int, ready bool) {
	t.Helper()
	if n.Role() != role || n.Leader() != leader || n.Ready() != ready {
		t.Fatalf("%s: role %d, leader %d, ready %t, and not %d, %d, %t", what, n.Role(), n.Leader(), n.Ready(), role, leader, ready)
	}
}

// ticks lets ticks pass in which nothing is told.
func ticks(t *testing.T, what string, n *view.Node, many int) {
	t.Helper()
	for i := range many {
		told(t, fmt.Sprintf("%s, tick %d of %d", what, i+1, many), n.Tick())
	}
}

// patience is how many ticks a master waits in a view.
func patience(me, of int) int { return 10 + (7*me+3*of)%10 }
