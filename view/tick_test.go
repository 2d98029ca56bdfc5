package view_test

import (
	"fmt"
	"testing"

	"cohort/api"
	"cohort/view"
)

// leads is a leader of view 3 among three, with two entries behind a snapshot of four.
func leads(t *testing.T) (*view.Node, api.Hard) {
	h := based(3, 3, 4, 2, "snap", "2e", "3f")
	return stand(t, 0, 3, h), h
}

// follows is the master 1 beside it.
func follows(t *testing.T) (*view.Node, api.Hard) {
	h := based(3, 3, 4, 2, "snap", "2e", "3f")
	return stand(t, 1, 3, h), h
}

// Promise 13.1: a leader tells ViewPrepare to each other one when 3 ticks have passed, again and again.
func TestTickOfLeader(t *testing.T) {
	for all := 1; all <= 7; all++ {
		for me := range all {
			what := fmt.Sprintf("%d of %d", me, all)
			n := stand(t, me, all, hard(me, me, "0a"))
			commit := 0
			if all == 1 {
				commit = 1
			}
			for range 12 {
				ticks(t, what, n, 2)
				var should []api.ViewMsg
				for i := range all {
					if i != me {
						should = append(should, prepare(me, i, me, 1, commit))
					}
				}
				told(t, what, n.Tick(), should...)
			}
			has(t, what, n, hard(me, me, "0a"), commit)
		}
	}
}

// Promise 13.1: a leader counts ticks from Propose on, but not from one that did nothing, nor from what it answers.
func TestTickBehindPropose(t *testing.T) {
	for ahead := range 3 {
		n, _ := leads(t)
		ticks(t, "ahead", n, ahead)
		n.Propose("g")
		ticks(t, "behind Propose", n, 2)
		told(t, "behind Propose", n.Tick(), prepare(0, 1, 3, 7, 4), prepare(0, 2, 3, 7, 4))
		ticks(t, "behind the tick", n, 2)
	}
	for ahead := range 3 {
		n := stand(t, 0, 3, api.Hard{Log: many(1, 1000)})
		ticks(t, "full", n, ahead)
		if _, _, ok := n.Propose("g"); ok {
			t.Fatal("put in a full log")
		}
		ticks(t, "full, behind Propose", n, 2-ahead)
		told(t, "full", n.Tick(), prepare(0, 1, 0, 1000, 0), prepare(0, 2, 0, 1000, 0))
	}
	n, h := leads(t)
	ticks(t, "ahead of messages", n, 2)
	told(t, "ViewAsk", n.Step(ask(1, 0, 3)), begin(0, 1, 4, h))
	told(t, "ViewWant", n.Step(want(1, 0, 3)), begin(0, 1, 4, h))
	told(t, "ViewGive", n.Step(give(1, 0, 0, hard(3, 2))), begin(0, 1, 4, h))
	told(t, "ViewOk", n.Step(okay(1, 0, 3, 5)), prepare(0, 1, 3, 5, 5, log("3f")...))
	told(t, "behind messages", n.Tick(), prepare(0, 1, 3, 5, 5, log("3f")...), prepare(0, 2, 3, 6, 5))
}

// Promise 13.1: a leader counts ticks from its view's beginning on.
func TestTickBehindBeginning(t *testing.T) {
	for ahead := range 10 {
		n := stand(t, 1, 3, hard(1, 0))
		ticks(t, "ahead", n, ahead)
		told(t, "the view begins", n.Step(give(2, 1, 0, hard(1, 0))), begin(1, 0, 0, hard(1, 1)), begin(1, 2, 0, hard(1, 1)))
		ticks(t, "begun", n, 2)
		told(t, "begun", n.Tick(), prepare(1, 0, 1, 0, 0), prepare(1, 2, 1, 0, 0))
	}
}

// wants is what one tells that goes over.
func wants(me, all, of int) []api.ViewMsg {
	var out []api.ViewMsg
	for i := range all {
		if i != me {
			out = append(out, want(me, i, of))
		}
	}
	return out
}

// Promise 13.1: each other one waits 10 + (7 me + 3 view) modulo 10 ticks, and goes over to the next view, from a view that has begun or has not.
func TestTickOfOthers(t *testing.T) {
	for all := 2; all <= 7; all++ {
		for me := range all {
			for of := range 24 {
				for _, normal := range []int{0, of} {
					if of == normal && of%all == me {
						continue
					}
					what := fmt.Sprintf("%d of %d in view %d of %d", me, all, of, normal)
					h := hard(of, normal, "0a", "0b")
					n := stand(t, me, all, h)
					for range 3 {
						ticks(t, what, n, patience(me, h.View)-1)
						has(t, what, n, h, 0)
						h.View++
						told(t, what, n.Tick(), wants(me, all, h.View)...)
						has(t, what, n, h, 0)
						is(t, what, n, api.Changing, -1, false)
					}
				}
			}
		}
	}
}

// Promise 13.1: the number of ticks as it is worked out by hand.
func TestPatience(t *testing.T) {
	for _, c := range []struct{ me, of, ticks int }{{1, 0, 17}, {2, 0, 14}, {0, 1, 13}, {2, 1, 17}, {3, 2, 17}, {6, 9, 19}, {1, 1, 10}, {4, 4, 10}, {6, most - 1, 10}} {
		n := stand(t, c.me, 7, api.Hard{View: c.of})
		if c.of == 0 {
			n = stand(t, c.me, 7, api.Hard{})
		}
		ticks(t, fmt.Sprint(c), n, c.ticks-1)
		told(t, fmt.Sprint(c), n.Tick(), wants(c.me, 7, c.of+1)...)
	}
}

// Promise 13.1: nobody goes beyond 2^31 - 1.
func TestTickAtTheEnd(t *testing.T) {
	for _, normal := range []int{0, most - 1, most} {
		n := stand(t, 2, 3, api.Hard{View: most, Normal: normal}) // 2^31 - 1 modulo 3 is 1
		ticks(t, "the last view", n, 200)
		has(t, "the last view", n, api.Hard{View: most, Normal: normal}, 0)
	}
	n := stand(t, 2, 3, api.Hard{View: most - 1, Normal: most - 1})
	ticks(t, "ahead of it", n, patience(2, most-1)-1)
	told(t, "ahead of it", n.Tick(), wants(2, 3, most)...)
	ticks(t, "gone over", n, 200)
	n = stand(t, 0, 1, api.Hard{View: most})
	ticks(t, "alone", n, 200)
	is(t, "alone", n, api.Changing, -1, false)
}

// wait is that a master waits its whole time from now on.
func wait(t *testing.T, what string, n *view.Node, me, all int) {
	t.Helper()
	of := n.View()
	ticks(t, what, n, patience(me, of)-1)
	told(t, what, n.Tick(), wants(me, all, of+1)...)
}

// Promise 13.1: what begins the waiting anew: ViewPrepare and ViewBegin that are followed, a view that begins, a later view.
func TestTickHeard(t *testing.T) {
	h := based(3, 3, 4, 2, "snap", "2e", "3f")
	later := func(of int) api.Hard { return based(of, of, 4, 2, "snap", "2e", "3f") }
	for name, m := range map[string]api.ViewMsg{
		"ViewPrepare":                    prepare(0, 1, 3, 6, 4),
		"ViewPrepare with entries":       prepare(0, 1, 3, 6, 4, log("3g")...),
		"ViewPrepare behind":             prepare(0, 1, 3, 5, 4),
		"ViewBegin that has no more":     begin(0, 1, 4, h),
		"ViewBegin with more":            begin(0, 1, 4, based(3, 3, 4, 2, "snap", "2e", "3f", "3g")),
		"ViewBegin of a later view":      begin(2, 1, 4, later(5)),
		"ViewBegin of a much later view": begin(0, 1, 4, later(99)),
		"ViewWant of a later view":       want(2, 1, 4),
		"ViewGive of a later view":       give(2, 1, 0, hard(5, 3)),
	} {
		n, _ := follows(t)
		ticks(t, name, n, patience(1, 3)-1)
		if len(n.Step(m)) == 0 {
			t.Fatalf("%s: nothing told", name)
		}
		wait(t, name, n, 1, 3)
	}
}

// Promise 13.1: what does not begin the waiting anew.
func TestTickNotHeard(t *testing.T) {
	h := based(3, 3, 4, 2, "snap", "2e", "3f")
	for name, m := range map[string]api.ViewMsg{
		"ViewPrepare that lacks something":  prepare(0, 1, 3, 7, 4),
		"ViewPrepare of a later view":       prepare(2, 1, 5, 6, 4),
		"ViewPrepare of a lesser view":      prepare(2, 1, 2, 6, 4),
		"ViewPrepare from who leads not":    prepare(2, 1, 3, 6, 4),
		"ViewBegin from who leads not":      begin(2, 1, 4, h),
		"ViewBegin of a lesser view":        begin(2, 1, 4, hard(2, 2, "0a", "0b", "0c", "0d", "0e", "0f", "0g")),
		"ViewBegin that can't be taken":     begin(2, 1, 4, hard(5, 5, "0a")),
		"ViewWant of this view":             want(2, 1, 3),
		"ViewGive of this view":             give(2, 1, 0, hard(3, 2)),
		"ViewAsk":                           ask(0, 1, 3),
		"ViewAsk of a later view":           ask(0, 1, 4),
		"ViewOk":                            okay(0, 1, 3, 6),
		"ViewOk of a later view":            okay(0, 1, 4, 6),
		"ViewPrepare that is not to it":     prepare(0, 2, 3, 6, 4),
		"ViewPrepare that may not be":       prepare(0, 1, 3, -1, 4),
		"ViewPrepare with too many entries": prepare(0, 1, 3, 6, 4, many(7, 17)...),
	} {
		n, _ := follows(t)
		ticks(t, name, n, patience(1, 3)-1)
		n.Step(m)
		has(t, name, n, h, 4)
		told(t, name, n.Tick(), wants(1, 3, 4)...)
	}
}

// Promise 13.1: one that changes and is wanted, given to or asked does not begin its waiting anew; when its view begins it does.
func TestTickWhileChanging(t *testing.T) {
	for name, m := range map[string]api.ViewMsg{
		"ViewWant":    want(0, 2, 4),
		"ViewPrepare": prepare(1, 2, 4, 0, 0),
		"ViewGive":    give(0, 2, 0, hard(4, 0)),
		"ViewAsk":     ask(0, 2, 4),
		"ViewOk":      okay(0, 2, 4, 0),
	} {
		n := stand(t, 2, 3, hard(4, 3))
		ticks(t, name, n, patience(2, 4)-1)
		n.Step(m)
		told(t, name, n.Tick(), wants(2, 3, 5)...)
	}
	n := stand(t, 2, 3, hard(4, 3))
	ticks(t, "ViewBegin", n, patience(2, 4)-1)
	told(t, "ViewBegin", n.Step(begin(1, 2, 0, hard(4, 4))), okay(2, 1, 4, 0))
	wait(t, "ViewBegin", n, 2, 3)
}

// Promise 13.1: one that led, and goes over, waits as others do.
func TestTickOfOneThatLed(t *testing.T) {
	for ahead := range 3 {
		n, _ := leads(t)
		ticks(t, "leads", n, ahead)
		h := based(5, 3, 4, 2, "snap", "2e", "3f")
		told(t, "goes over", n.Step(want(1, 0, 5)), append(wants(0, 3, 5), give(0, 2, 4, h))...)
		wait(t, "went over", n, 0, 3)
	}
}
