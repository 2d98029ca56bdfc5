package view_test

import (
	"fmt"
	"testing"

	"cohort/api"
	"cohort/view"
)

// proposes is that Propose tells an index and messages.
func proposes(t *testing.T, what string, n *view.Node, s string, at int, wanted ...api.ViewMsg) {
	t.Helper()
	got, out, ok := n.Propose(s)
	if got != at || !ok {
		t.Fatalf("%s: Propose tells %d, %t, and not %d", what, got, ok, at)
	}
	told(t, what, out, wanted...)
}

// refuses is that Propose does nothing.
func refuses(t *testing.T, what string, n *view.Node) {
	t.Helper()
	h, commit := n.Hard(), n.Commit()
	at, out, ok := n.Propose("no")
	if at != 0 || len(out) != 0 || ok {
		t.Fatalf("%s: Propose tells %d, %s, %t", what, at, show(out), ok)
	}
	has(t, what, n, h, commit)
}

// Promise 13.1: Propose of one that leads: the index, the entry of its view, ViewPrepare to all others.
func TestPropose(t *testing.T) {
	n, h := leads(t)
	proposes(t, "first", n, "g", 7, prepare(0, 1, 3, 7, 4), prepare(0, 2, 3, 7, 4))
	h.Log = log("2e", "3f", "3g")
	has(t, "first", n, h, 4)
	proposes(t, "empty", n, "", 8, prepare(0, 1, 3, 8, 4), prepare(0, 2, 3, 8, 4))
	h.Log = log("2e", "3f", "3g", "3")
	has(t, "empty", n, h, 4)
	told(t, "one has it", n.Step(okay(2, 0, 3, 6)), prepare(0, 2, 3, 6, 6, log("3g", "3")...))
	proposes(t, "known", n, "i", 9, prepare(0, 1, 3, 9, 6), prepare(0, 2, 3, 6, 6, log("3g", "3", "3i")...))
	has(t, "known", n, based(3, 3, 4, 2, "snap", "2e", "3f", "3g", "3", "3i"), 6)
}

// Promise 13.1: one that does not lead puts nothing.
func TestProposeElsewhere(t *testing.T) {
	n, _ := follows(t)
	refuses(t, "a follower", n)
	refuses(t, "one that changes", stand(t, 2, 3, hard(3, 2)))
	refuses(t, "who is to lead", stand(t, 0, 3, hard(3, 2)))
	n, _ = leads(t)
	n.Step(want(1, 0, 4))
	refuses(t, "one that led", n)
}

// Promise 13.1: one that has MaxEntries entries puts nothing, until a snapshot is laid.
func TestProposeFull(t *testing.T) {
	n := stand(t, 0, 3, api.Hard{Log: many(1, 998)})
	proposes(t, "the 999th", n, "x", 999, prepare(0, 1, 0, 999, 0), prepare(0, 2, 0, 999, 0))
	proposes(t, "the 1000th", n, "y", 1000, prepare(0, 1, 0, 1000, 0), prepare(0, 2, 0, 1000, 0))
	refuses(t, "full", n)
	n.Step(okay(1, 0, 0, 1000))
	refuses(t, "full and committed", n)
	if !n.Compact(1, "s") {
		t.Fatal("not compacted")
	}
	proposes(t, "one is gone", n, "z", 1001, prepare(0, 1, 0, 1000, 1000, log("0z")...), prepare(0, 2, 0, 1001, 1000))
	refuses(t, "full again", n)
}

// Promise 13.1: alone, all that is put is committed, and nothing is told.
func TestAlone(t *testing.T) {
	n := stand(t, 0, 1, api.Hard{})
	is(t, "alone", n, api.Leader, 0, true)
	var h api.Hard
	for i := 1; i <= 1000; i++ {
		s := fmt.Sprint(i)
		proposes(t, s, n, s, i)
		h.Log = append(h.Log, api.LogEntry{S: s})
		has(t, s, n, h, i)
		is(t, s, n, api.Leader, 0, true)
	}
	refuses(t, "alone and full", n)
	ticks(t, "alone", n, 100)
	for kind := 1; kind <= 6; kind++ {
		for _, from := range []int{-1, 0, 1} {
			told(t, "alone", n.Step(bare(kind, from, 0, 1)))
		}
	}
	has(t, "alone", n, h, 1000)
	n = stand(t, 0, 1, h)
	has(t, "up again", n, h, 1000)
	is(t, "up again", n, api.Leader, 0, true)
}

// Promise 13.1: one that is alone and stands up amid a change leads the next view, when it has waited.
func TestAloneChanging(t *testing.T) {
	for of := 1; of < 12; of++ {
		what := fmt.Sprint("alone in view ", of)
		n := stand(t, 0, 1, based(of, of-1, 2, 0, "s", "0a", "0b"))
		has(t, what, n, based(of, of-1, 2, 0, "s", "0a", "0b"), 4)
		is(t, what, n, api.Changing, -1, false)
		refuses(t, what, n)
		ticks(t, what, n, patience(0, of)-1)
		is(t, what, n, api.Changing, -1, false)
		ticks(t, what, n, 1)
		is(t, what, n, api.Leader, 0, true)
		has(t, what, n, based(of+1, of+1, 2, 0, "s", "0a", "0b"), 4)
	}
}

// Promise 13.1: ViewOk: how far others have the log, what is committed, and what is told to one that has not all.
func TestOk(t *testing.T) {
	h := based(3, 3, 4, 2, "snap", "2e", "3f")
	for index := range 9 {
		what := fmt.Sprintf("ViewOk of %d", index)
		n, _ := leads(t)
		out := n.Step(okay(1, 0, 3, index))
		switch {
		case index < 4: // behind the snapshot
			told(t, what, out, prepare(0, 1, 3, 6, 4))
			has(t, what, n, h, 4)
		case index < 6:
			told(t, what, out, prepare(0, 1, 3, index, index, h.Log[index-4:]...))
			has(t, what, n, h, index)
		default:
			told(t, what, out)
			has(t, what, n, h, 6)
		}
		is(t, what, n, api.Leader, 0, index >= 6)
	}
}

// Promise 13.1: how far one has the log never falls, nor goes above the last.
func TestOkNeverFalls(t *testing.T) {
	n, h := leads(t)
	told(t, "5", n.Step(okay(1, 0, 3, 5)), prepare(0, 1, 3, 5, 5, log("3f")...))
	told(t, "4", n.Step(okay(1, 0, 3, 4)), prepare(0, 1, 3, 5, 5, log("3f")...))
	told(t, "0", n.Step(okay(1, 0, 3, 0)), prepare(0, 1, 3, 5, 5, log("3f")...))
	told(t, "most", n.Step(okay(1, 0, 3, most)))
	told(t, "4 again", n.Step(okay(1, 0, 3, 4)))
	has(t, "all", n, h, 6)
	proposes(t, "one more", n, "g", 7, prepare(0, 1, 3, 6, 6, log("3g")...), prepare(0, 2, 3, 7, 6))
	told(t, "the other one behind the snapshot", n.Step(okay(2, 0, 3, 1)), prepare(0, 2, 3, 7, 6))
	told(t, "the other one", n.Step(okay(2, 0, 3, 6)), prepare(0, 2, 3, 6, 6, log("3g")...))
	has(t, "all", n, based(3, 3, 4, 2, "snap", "2e", "3f", "3g"), 6)
}

// Promise 13.1: 16 entries at most are told at once.
func TestPrepareSixteen(t *testing.T) {
	h := api.Hard{BaseIndex: 5, Log: many(6, 40)}
	for index := 5; index <= 45; index++ {
		n := stand(t, 0, 3, h)
		out := n.Step(okay(2, 0, 0, index))
		if index == 45 {
			told(t, "all", out)
			continue
		}
		told(t, fmt.Sprint("from ", index), out, prepare(0, 2, 0, index, index, h.Log[index-5:min(index-5+16, 40)]...))
	}
}

// Promise 13.1: what more than half have is committed, with the leader itself, in any order, among any number.
func TestCommitOfMost(t *testing.T) {
	for all := 2; all <= 7; all++ {
		for need := range 4 {
			for from := 1; from < all; from++ {
				n := stand(t, 0, all, api.Hard{Log: many(1, 5)})
				acked := 0
				for k := range all - 1 {
					i := 1 + (from-1+k)%(all-1)
					n.Step(okay(i, 0, 0, 2+need))
					acked++
					commit := 0
					if 2*(acked+1) > all {
						commit = min(2+need, 5)
					}
					if n.Commit() != commit || n.Ready() != (commit == 5) {
						t.Fatalf("%d of %d have %d: %d is committed, ready %t", acked+1, all, 2+need, n.Commit(), n.Ready())
					}
				}
			}
		}
	}
}

// Promise 13.1: with different numbers the greatest one that more than half have is committed.
func TestCommitOfDifferent(t *testing.T) {
	for _, c := range []struct{ far, commit []int }{
		{[]int{5, 4, 3, 2}, []int{1, 4, 4, 4}}, {[]int{2, 3, 4, 5}, []int{1, 2, 3, 4}}, {[]int{1, 1, 6, 6}, []int{1, 1, 1, 6}},
		{[]int{6, 6, 6, 6}, []int{1, 6, 6, 6}}, {[]int{0, 0, 0, 0}, []int{1, 1, 1, 1}}, {[]int{3, 3, 2, 5}, []int{1, 3, 3, 3}}, {[]int{5, 2}, []int{2 - 1, 2}},
	} {
		n := stand(t, 0, 5, api.Hard{BaseIndex: 1, Log: many(2, 5)})
		for i, at := range c.far {
			n.Step(okay(i+1, 0, 0, at))
			if n.Commit() != c.commit[i] {
				t.Fatalf("%v, behind %d of them: %d is committed", c, i+1, n.Commit())
			}
		}
	}
}

// Promise 13.1: ViewOk elsewhere than at the leader of that view does nothing.
func TestOkElsewhere(t *testing.T) {
	n, h := follows(t)
	told(t, "a follower", n.Step(okay(0, 1, 3, 6)))
	told(t, "a follower, from another one", n.Step(okay(2, 1, 3, 6)))
	has(t, "a follower", n, h, 4)
	n, h = leads(t)
	for _, of := range []int{0, 2, 4, 6, most} {
		told(t, "another view", n.Step(okay(1, 0, of, 6)))
		has(t, "another view", n, h, 4)
	}
	n = stand(t, 0, 3, hard(3, 2, "0a"))
	told(t, "who is to lead", n.Step(okay(1, 0, 3, 1)))
	has(t, "who is to lead", n, hard(3, 2, "0a"), 0)
}

// Promise 13.1: what was known of how far others have the log is forgotten with the view.
func TestOkForgotten(t *testing.T) {
	n, _ := leads(t)
	n.Step(okay(1, 0, 3, 6))
	n.Step(want(1, 0, 6))
	h := based(6, 6, 4, 2, "snap", "2e", "3f")
	told(t, "it begins again", n.Step(give(1, 0, 6, based(6, 3, 4, 2, "snap", "2e", "3f"))), begin(0, 1, 6, h), begin(0, 2, 6, h))
	proposes(t, "begun", n, "g", 7, prepare(0, 1, 6, 7, 6), prepare(0, 2, 6, 7, 6))
}

// Promise 13.1: Ready asks for what it had when it stood up, not for what was put later.
func TestReadyStoodUp(t *testing.T) {
	n, _ := leads(t)
	is(t, "stood up", n, api.Leader, 0, false)
	proposes(t, "more", n, "g", 7, prepare(0, 1, 3, 7, 4), prepare(0, 2, 3, 7, 4))
	n.Step(okay(2, 0, 3, 5))
	is(t, "5", n, api.Leader, 0, false)
	n.Step(okay(2, 0, 3, 6))
	is(t, "6", n, api.Leader, 0, true)
	n.Step(want(2, 0, 4))
	is(t, "changing", n, api.Changing, -1, false)
	n = stand(t, 0, 3, based(3, 3, 4, 2, "snap"))
	is(t, "nothing behind the snapshot", n, api.Leader, 0, true)
	n.Propose("e")
	is(t, "put later", n, api.Leader, 0, true)
}
