package view_test

import (
	"fmt"
	"math"
	"testing"

	"cohort/api"
	"cohort/view"
)

// refused is that New tells ErrArg, and no master.
func refused(t *testing.T, me, all int, h api.Hard) {
	t.Helper()
	n, e := view.New(me, all, h)
	if e != api.ErrArg || n != nil {
		t.Errorf("New(%d, %d, view %d, normal %d, base %d, %d entries): error %d", me, all, h.View, h.Normal, h.BaseIndex, len(h.Log), e)
	}
}

// Promise 13.1: New with each number of masters and each number of one.
func TestNewMasters(t *testing.T) {
	odd := []int{math.MinInt, -most, -1, 7, 8, 9, 100, most, math.MaxInt}
	for _, all := range append([]int{0, 1, 2, 3, 4, 5, 6}, odd...) {
		for _, me := range append([]int{0, 1, 2, 3, 4, 5, 6}, odd...) {
			if all < 1 || all > 7 || me < 0 || me >= all {
				refused(t, me, all, api.Hard{})
				continue
			}
			what := fmt.Sprintf("New(%d, %d)", me, all)
			n := stand(t, me, all, api.Hard{})
			has(t, what, n, api.Hard{}, 0)
			if me == 0 {
				is(t, what, n, api.Leader, 0, true)
			} else {
				is(t, what, n, api.Follower, 0, false)
			}
		}
	}
}

// Promise 13.1: New with numbers that may not be.
func TestNewNumbers(t *testing.T) {
	for _, x := range []int{math.MinInt, -most - 1, -most, -1, most + 1, math.MaxInt} {
		refused(t, 0, 3, api.Hard{View: x})
		refused(t, 0, 3, api.Hard{View: most, Normal: x})
		refused(t, 0, 3, api.Hard{View: x, Normal: x})
		refused(t, 0, 3, api.Hard{BaseIndex: x})
	}
	for _, l := range [][2]int{{0, 1}, {1, 2}, {5, 6}, {5, most}, {most - 1, most}, {0, most}} {
		refused(t, 0, 3, api.Hard{View: l[0], Normal: l[1]})
	}
	refused(t, 0, 3, api.Hard{Log: many(1, 1001)})
	refused(t, 0, 3, api.Hard{Log: many(1, 5000)})
	refused(t, 0, 1, api.Hard{Log: many(1, 1001)})
}

// Promise 13.1: New at the edges of what may be, and what it is then.
func TestNewEdges(t *testing.T) {
	for i, h := range []api.Hard{
		{View: most, Normal: most}, {View: most}, {View: most, Normal: most - 1}, {BaseIndex: most}, {BaseIndex: most, Base: "s", BaseView: -5},
		{View: most, Normal: most, BaseIndex: most, BaseView: most + 5, Base: "s"}, {Log: many(1, 1000)}, {Log: many(1, 999)},
		{View: 4, Normal: 1, BaseIndex: 7, BaseView: 3, Base: "snap", Log: log("1a", "0b", "9c")}, {Log: []api.LogEntry{{View: -1}, {View: most + 1}}},
		{View: 3, Normal: 3, Log: []api.LogEntry{}}, {View: 1, Normal: 1}, {View: 1}, {View: 2, Normal: 2}, {View: 2, Normal: 1},
	} {
		for all := 1; all <= 7; all++ {
			for me := range all {
				what := fmt.Sprintf("case %d, %d of %d", i, me, all)
				n := stand(t, me, all, h)
				last := h.BaseIndex + len(h.Log)
				commit := h.BaseIndex
				if all == 1 {
					commit = last
				}
				has(t, what, n, h, commit)
				switch {
				case h.View != h.Normal:
					is(t, what, n, api.Changing, -1, false)
				case h.View%all == me:
					is(t, what, n, api.Leader, me, commit == last)
				default:
					is(t, what, n, api.Follower, h.View%all, false)
				}
			}
		}
	}
}

// R2: what is handed in to New can be changed later, and what Hard tells, too.
func TestHardIsTheCallers(t *testing.T) {
	room := log("0a", "0b", "0c", "0d")
	n := stand(t, 0, 1, api.Hard{Log: room[:2]})
	at, _, _ := n.Propose("x")
	if at != 3 || room[2].S != "c" {
		t.Fatalf("%d, and what was handed in is now %v", at, room)
	}
	room[0].S = "changed"
	should := hard(0, 0, "0a", "0b", "0x")
	has(t, "changed behind New", n, should, 3)
	h := n.Hard()
	h.Log[0].S, h.Log[2].View = "other", 7
	_ = append(h.Log, log("9z")...)
	_ = append(h.Log[:1], log("9z")...)
	has(t, "changed behind Hard", n, should, 3)
	h = n.Hard()
	n.Propose("y")
	n.Compact(2, "s")
	if !sameHard(h, should) {
		t.Errorf("what was told is now %v", h)
	}
	has(t, "gone on", n, based(0, 0, 2, 0, "s", "0x", "0y"), 4)
}

// nothing is that a master does and tells nothing.
func nothing(t *testing.T, what string, n *view.Node) {
	t.Helper()
	for range 50 {
		told(t, what, n.Tick())
	}
	for kind := 1; kind <= 6; kind++ {
		for _, m := range msgs(bare(kind, 0, 1, 0), bare(kind, 1, 0, 0), bare(kind, 1, 0, 1), bare(kind, 0, 0, 0), begin(1, 0, 1, hard(1, 1, "0a"))) {
			told(t, what, n.Step(m))
		}
	}
	at, out, ok := n.Propose("a")
	if at != 0 || len(out) != 0 || ok {
		t.Errorf("%s: Propose tells %d, %v, %t", what, at, out, ok)
	}
	for _, i := range []int{math.MinInt, -1, 0, 1, math.MaxInt} {
		if n.Compact(i, "s") {
			t.Errorf("%s: Compact(%d)", what, i)
		}
	}
	has(t, what, n, api.Hard{}, 0)
	is(t, what, n, 0, -1, false)
}

// Promise 13.1: a nil node tells nothing, 0, and -1 for who leads.
func TestNil(t *testing.T) {
	nothing(t, "nil", nil)
}

// R1: a node that New did not make is none.
func TestNotMade(t *testing.T) {
	nothing(t, "not made", &view.Node{})
}
