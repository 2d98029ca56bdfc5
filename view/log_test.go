package view_test

import (
	"fmt"
	"math"
	"testing"

	"cohort/api"
	"cohort/view"
)

// committed is a follower of view 0 with so much committed; 1 of 3, led by 0.
func committed(t *testing.T, h api.Hard, commit int) *view.Node {
	t.Helper()
	n := stand(t, 1, 3, h)
	if h.View != h.Normal {
		t.Fatal("its view has not begun")
	}
	last := h.BaseIndex + len(h.Log)
	told(t, "ViewPrepare", n.Step(prepare(h.View%3, 1, h.View, last, commit)), okay(1, h.View%3, h.View, last))
	has(t, "committed", n, h, commit)
	return n
}

// Promise 13.1: Compact of what is committed, behind the snapshot; nothing else.
func TestCompact(t *testing.T) {
	h := based(3, 3, 4, 2, "snap", "2e", "3f", "3g", "3h")
	for _, index := range []int{math.MinInt, -1, 0, 1, 3, 4, 5, 6, 7, 8, 9, most, math.MaxInt} {
		what := fmt.Sprintf("Compact(%d)", index)
		n := committed(t, h, 7)
		ok := n.Compact(index, "new")
		if ok != (index >= 5 && index <= 7) {
			t.Fatalf("%s tells %t", what, ok)
		}
		if !ok {
			has(t, what, n, h, 7)
			continue
		}
		should := h
		should.BaseIndex, should.BaseView, should.Base, should.Log = index, h.Log[index-5].View, "new", h.Log[index-4:]
		has(t, what, n, should, 7)
		is(t, what, n, api.Follower, 0, false)
		for _, again := range []int{4, 5, index} {
			if again <= index && n.Compact(again, "again") {
				t.Fatalf("%s, then Compact(%d)", what, again)
			}
		}
		has(t, what, n, should, 7)
		told(t, what, n.Step(prepare(0, 1, 3, 8, 8, log("3i")...)), okay(1, 0, 3, 9))
		should.Log = append(append([]api.LogEntry{}, should.Log...), log("3i")...)
		has(t, what+", gone on", n, should, 8)
	}
}

// Promise 13.1: Compact of one that is alone, one that leads and one that changes; with an empty text, too.
func TestCompactElsewhere(t *testing.T) {
	n := stand(t, 0, 1, hard(0, 0, "0a", "0b"))
	if !n.Compact(2, "") || n.Compact(2, "") || n.Compact(3, "") {
		t.Fatal("alone")
	}
	has(t, "alone", n, api.Hard{BaseIndex: 2}, 2)
	proposes(t, "alone", n, "c", 3)
	has(t, "alone", n, based(0, 0, 2, 0, "", "0c"), 3)
	n, _ = leads(t)
	if n.Compact(5, "x") {
		t.Fatal("not committed")
	}
	n.Step(okay(1, 0, 3, 5))
	if n.Compact(6, "x") || !n.Compact(5, "x") {
		t.Fatal("at the leader")
	}
	h := based(3, 3, 5, 2, "x", "3f")
	has(t, "at the leader", n, h, 5)
	told(t, "at the leader", n.Step(ask(2, 0, 3)), begin(0, 2, 5, h))
	told(t, "behind the snapshot", n.Step(okay(2, 0, 3, 4)), prepare(0, 2, 3, 6, 5))
	told(t, "at the snapshot", n.Step(okay(2, 0, 3, 5)), prepare(0, 2, 3, 5, 5, log("3f")...))
	n = committed(t, based(3, 3, 4, 2, "snap", "2e", "3f"), 6)
	n.Step(want(2, 1, 5))
	if !n.Compact(6, "y") {
		t.Fatal("amid a change")
	}
	has(t, "amid a change", n, based(5, 3, 6, 3, "y"), 6)
}

// taker is a state, and what may be said of taking logs there.
type taker struct {
	name  string
	stand func(t *testing.T) *view.Node
	h     api.Hard
	leads int
	of    int // the view of the message
	begun bool
}

// takers is one that follows, one that changes and one that is in a lesser view; with 4 and two more of four entries committed.
func takers() []taker {
	h := based(3, 3, 4, 2, "snap", "2e", "3f", "3g", "3h")
	changing := h
	changing.View = 6
	mid := func(t *testing.T) *view.Node {
		n := committed(t, h, 6)
		n.Step(bare(api.ViewWant, 2, 1, 6))
		return n
	}
	return []taker{
		{"one that follows", func(t *testing.T) *view.Node { return committed(t, h, 6) }, h, 0, 3, true},
		{"one that changes", mid, changing, 0, 6, false},
		{"one in a lesser view", func(t *testing.T) *view.Node { return committed(t, h, 6) }, h, 2, 5, false},
		{"one that changes in a lesser view", mid, changing, 2, 8, false},
	}
}

// Promise 13.1: logs that may not be taken: nothing more is done.
func TestLogNotTaken(t *testing.T) {
	bad := map[string]func(m *api.ViewMsg){
		"Index above the entries":                   func(m *api.ViewMsg) { m.Index++ },
		"Index below the entries":                   func(m *api.ViewMsg) { m.Index-- },
		"Index of no log":                           func(m *api.ViewMsg) { m.Index = most },
		"BaseIndex above":                           func(m *api.ViewMsg) { m.BaseIndex++ },
		"BaseIndex below":                           func(m *api.ViewMsg) { m.BaseIndex-- },
		"less than is committed":                    func(m *api.ViewMsg) { m.Entries, m.Index = m.Entries[:1], 5 },
		"nothing":                                   func(m *api.ViewMsg) { m.Entries, m.Index, m.BaseIndex = nil, 0, 0 },
		"less than the snapshot":                    func(m *api.ViewMsg) { m.Entries, m.Index, m.BaseIndex = many(1, 3), 3, 0 },
		"another snapshot, less":                    func(m *api.ViewMsg) { m.Entries, m.Index, m.BaseIndex = nil, 5, 5 },
		"another text where one is committed":       func(m *api.ViewMsg) { m.Entries = log("2e", "3x", "3g", "3h", "3i") },
		"another view where one is committed":       func(m *api.ViewMsg) { m.Entries = log("2e", "2f", "3g", "3h", "3i") },
		"another first one":                         func(m *api.ViewMsg) { m.Entries = log("2x", "3f", "3g", "3h", "3i") },
		"another one, from before the snapshot":     func(m *api.ViewMsg) { m.BaseIndex, m.Entries = 3, log("2d", "2x", "3f", "3g", "3h", "3i") },
		"another one, behind a snapshot":            func(m *api.ViewMsg) { m.BaseIndex, m.Entries = 5, log("3x", "3g", "3h", "3i") },
		"another one, behind a snapshot, and ahead": func(m *api.ViewMsg) { m.BaseIndex, m.Entries, m.Index = 5, log("3x", "3g", "3h", "3i", "3j"), 10 },
	}
	for _, k := range takers() {
		for name, spoil := range bad {
			what := k.name + ": " + name
			n := k.stand(t)
			m := begin(k.leads, 1, 9, based(k.of, k.of, 4, 2, "snap", "2e", "3f", "3g", "3h", "3i"))
			spoil(&m)
			out := n.Step(m)
			if k.begun { // it is not taken, but whom it follows it follows
				told(t, what, out, okay(1, k.leads, k.of, 8))
				has(t, what, n, k.h, 8)
				continue
			}
			told(t, what, out)
			has(t, what, n, k.h, 6)
		}
	}
}

// Promise 13.1: logs that are taken, by where their snapshot is: behind, the same, ahead within the log, ahead of all of it.
func TestLogTaken(t *testing.T) {
	all := log("0a", "0b", "1c", "2d", "2e", "3f", "3x", "3y", "3z", "3!", "3?")
	for _, k := range takers() {
		for base := 0; base <= 11; base++ {
			for last := max(base, 6); last <= 11; last++ {
				for _, commit := range []int{0, 5, 6, 7, 10, 11, most} {
					what := fmt.Sprintf("%s: a log from %d to %d, of which %d is committed", k.name, base, last, commit)
					n := k.stand(t)
					h := api.Hard{View: k.of, Normal: k.of, BaseIndex: base, BaseView: 1, Base: "its", Log: all[base:last]}
					should := h
					if base <= 4 {
						should.BaseIndex, should.BaseView, should.Base, should.Log = 4, 2, "snap", all[4:last]
					}
					if k.begun && last <= 8 {
						should = k.h
					}
					end := should.BaseIndex + len(should.Log)
					told(t, what, n.Step(begin(k.leads, 1, commit, h)), okay(1, k.leads, k.of, end))
					has(t, what, n, should, max(6, should.BaseIndex, min(commit, end)))
					is(t, what, n, api.Follower, k.leads, false)
				}
			}
		}
	}
}

// Promise 13.1: a log of as many entries as may be.
func TestLogTakenFull(t *testing.T) {
	n := stand(t, 1, 3, api.Hard{})
	h := api.Hard{View: 3, Normal: 3, Log: many(1, 1000)}
	told(t, "full", n.Step(begin(0, 1, 1000, h)), okay(1, 0, 3, 1000))
	has(t, "full", n, h, 1000)
	h.Log = many(1, 1001)
	n = stand(t, 1, 3, api.Hard{})
	told(t, "too many", n.Step(begin(0, 1, 1000, h)))
	has(t, "too many", n, api.Hard{}, 0)
	h = api.Hard{View: 3, Normal: 3, BaseIndex: most, Base: "s"}
	told(t, "the greatest snapshot", n.Step(begin(0, 1, most, h)), okay(1, 0, 3, most))
	has(t, "the greatest snapshot", n, h, most)
}

// Promise 13.1: ViewPrepare with entries that stand behind, partly ahead, and wholly ahead.
func TestPrepareTaken(t *testing.T) {
	leaders := log("2e", "3f", "3g", "3h", "3i", "3j", "3k")
	for index := 0; index <= 8; index++ {
		for count := range 8 {
			for _, commit := range []int{0, 5, 6, 7, 11, most} {
				what := fmt.Sprintf("%d entries behind %d, %d is committed", count, index, commit)
				n, h := follows(t)
				var l []api.LogEntry
				for i := index + 1; i <= index+count; i++ {
					if i < 5 {
						l = append(l, api.LogEntry{S: "x"})
					} else if i < 12 {
						l = append(l, leaders[i-5])
					} else {
						l = append(l, api.LogEntry{View: 3, S: fmt.Sprint(i)})
					}
				}
				out := n.Step(prepare(0, 1, 3, index, commit, l...))
				if index > 6 {
					told(t, what, out, ask(1, 0, 3))
					has(t, what, n, h, 4)
					continue
				}
				if index+count > 6 {
					h.Log = append(h.Log, l[6-index:]...)
				}
				last := max(6, index+count)
				told(t, what, out, okay(1, 0, 3, last))
				has(t, what, n, h, max(4, min(commit, last)))
			}
		}
	}
}

// Promise 13.1: entries that it has are not held against those that come.
func TestPrepareKeepsWhatIsThere(t *testing.T) {
	n, h := follows(t)
	told(t, "others", n.Step(prepare(0, 1, 3, 4, 6, log("9x", "9y", "3g")...)), okay(1, 0, 3, 7))
	h.Log = append(h.Log, log("3g")...)
	has(t, "others", n, h, 6)
}

// Promise 13.1: of ViewPrepare with more entries than there is room for none comes.
func TestPrepareFull(t *testing.T) {
	for have := 984; have <= 1000; have++ {
		for more := range 17 {
			for back := range 3 {
				if back > more {
					continue
				}
				what := fmt.Sprintf("%d entries behind %d of %d", more, have-back, have)
				h := api.Hard{Log: many(1, have)}
				n := stand(t, 1, 3, h)
				last := have + more - back
				if last > 1000 {
					last = have
				}
				told(t, what, n.Step(prepare(0, 1, 0, have-back, 2000, many(have-back+1, more)...)), okay(1, 0, 0, last))
				has(t, what, n, api.Hard{Log: many(1, last)}, last)
			}
		}
	}
}

// Promise 13.1: it is how many entries there are behind the snapshot that is asked, not their index.
func TestPrepareFullBehindSnapshot(t *testing.T) {
	n := stand(t, 1, 3, api.Hard{BaseIndex: 5000, Log: many(5001, 999)})
	told(t, "two", n.Step(prepare(0, 1, 0, 5999, 0, many(6000, 2)...)), okay(1, 0, 0, 5999))
	told(t, "one", n.Step(prepare(0, 1, 0, 5999, 0, many(6000, 1)...)), okay(1, 0, 0, 6000))
	has(t, "one", n, api.Hard{BaseIndex: 5000, Log: many(5001, 1000)}, 5000)
}
