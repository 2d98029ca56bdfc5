package rnode_test

import (
	"fmt"
	"testing"

	"cohort/api"
	"cohort/disk"
	"cohort/rnode"
)

// Example 1.
func TestExample(t *testing.T) {
	d := disk.New()
	n := open(t, "the example", d, 0, 1)
	if index, l, e := n.Propose("a"); index != 1 || l != nil || e != api.OK {
		t.Fatalf("Propose: %d, %v, error %d", index, l, e)
	}
	next(t, "the first life", n, api.Given{Index: 1, S: "a"})
	noNext(t, "the first life", n)
	d.Crash(0, 0)
	d.Up()
	n = open(t, "the second life", d, 0, 1)
	for n.View().Role() != api.Leader {
		n.Tick()
	}
	next(t, "the second life", n, api.Given{Index: 1, S: "a"})
	noNext(t, "the second life", n)
}

// steps takes a message without an error.
func steps(t *testing.T, n *rnode.Node, m api.ViewMsg) {
	t.Helper()
	if _, e := n.Step(m); e != api.OK {
		t.Fatalf("Step(%v): error %d", m, e)
	}
}

// Promise 14.1: Next: the entries in their order, each once, none that is not committed.
func TestNextOrder(t *testing.T) {
	n := open(t, "order", disk.New(), 1, 3)
	noNext(t, "nothing", n)
	steps(t, n, prepare(0, 1, 0, 0, 0, log("0a", "0b", "0c", "0d")...))
	noNext(t, "nothing is committed", n)
	steps(t, n, prepare(0, 1, 0, 4, 1))
	next(t, "one is committed", n, api.Given{Index: 1, S: "a"})
	noNext(t, "one is committed", n)
	steps(t, n, prepare(0, 1, 0, 4, 3))
	next(t, "two more", n, api.Given{Index: 2, S: "b"})
	steps(t, n, prepare(0, 1, 0, 4, 9))
	next(t, "two more", n, api.Given{Index: 3, S: "c"})
	next(t, "all", n, api.Given{Index: 4, S: "d"})
	noNext(t, "all", n)
	// What is not committed becomes another one, and is handed out then.
	steps(t, n, prepare(0, 1, 0, 4, 4, log("0e", "0f")...))
	noNext(t, "none of the two", n)
	steps(t, n, whole(api.ViewBegin, 2, 1, 5, hard(2, 2, "0a", "0b", "0c", "0d", "2x", "2y")))
	next(t, "another one", n, api.Given{Index: 5, View: 2, S: "x"})
	noNext(t, "another one", n)
	steps(t, n, prepare(2, 1, 2, 6, 6))
	next(t, "another one", n, api.Given{Index: 6, View: 2, S: "y"})
	noNext(t, "another one", n)
}

// Promise 14.1: Next of a leader: what more than half have.
func TestNextOfLeader(t *testing.T) {
	n := open(t, "leader", disk.New(), 0, 3)
	for i, s := range []string{"a", "", "c"} {
		if index, _, e := n.Propose(s); index != i+1 || e != api.OK {
			t.Fatalf("Propose: %d, error %d", index, e)
		}
		noNext(t, "it alone has it", n)
	}
	steps(t, n, okay(2, 0, 0, 2))
	next(t, "two have it", n, api.Given{Index: 1, S: "a"})
	next(t, "two have it", n, api.Given{Index: 2, S: ""})
	noNext(t, "two have it", n)
	steps(t, n, okay(1, 0, 0, 3))
	next(t, "two have the third", n, api.Given{Index: 3, S: "c"})
}

// Promise 14.1: the snapshot is handed out where less than BaseIndex was, and all up to it is handed out.
func TestNextSnapshot(t *testing.T) {
	for had := range 6 {
		for handed := range had + 1 {
			what := fmt.Sprintf("%d entries, %d handed out", had, handed)
			n := open(t, what, disk.New(), 1, 3)
			steps(t, n, prepare(0, 1, 0, 0, had, many(1, had)...))
			for i := range handed {
				next(t, what, n, api.Given{Index: i + 1, S: fmt.Sprint(i + 1)})
			}
			b := whole(api.ViewBegin, 2, 1, 8, api.Hard{View: 2, Normal: 2, BaseIndex: 7, BaseView: 1, Base: "snap", Log: log("1h", "2i")})
			steps(t, n, b)
			if s, index := n.Base(); s != "snap" || index != 7 || n.At() != handed {
				t.Fatalf("%s: Base tells %q, %d, At %d", what, s, index, n.At())
			}
			next(t, what, n, api.Given{Index: 7, View: 1, S: "snap", Snap: true})
			next(t, what, n, api.Given{Index: 8, View: 1, S: "h"})
			noNext(t, what, n)
			steps(t, n, prepare(2, 1, 2, 9, 9))
			next(t, what, n, api.Given{Index: 9, View: 2, S: "i"})
			noNext(t, what, n)
		}
	}
}

// Promise 14.1: a snapshot of just what was handed out, or of less, is not handed out; one of one entry more is.
func TestNextSnapshotEdges(t *testing.T) {
	for base := 1; base <= 6; base++ {
		what := fmt.Sprintf("a snapshot of %d", base)
		n := open(t, what, disk.New(), 1, 3)
		steps(t, n, prepare(0, 1, 0, 0, 4, many(1, 4)...))
		for i := range 4 {
			next(t, what, n, api.Given{Index: i + 1, S: fmt.Sprint(i + 1)})
		}
		steps(t, n, whole(api.ViewBegin, 2, 1, 6, api.Hard{View: 2, Normal: 2, BaseIndex: base, Base: "snap", Log: many(base+1, 6-base)}))
		if _, index := n.Base(); index != base {
			t.Fatalf("%s: it was not taken, Base tells %d", what, index)
		}
		from := 5
		if base > 4 {
			next(t, what, n, api.Given{Index: base, S: "snap", Snap: true})
			from = base + 1
		}
		for i := from; i <= 6; i++ {
			next(t, what, n, api.Given{Index: i, S: fmt.Sprint(i)})
		}
		noNext(t, what, n)
	}
}

// Promise 14.1: the snapshot on which a life begins is handed out already.
func TestNextOfAnotherLife(t *testing.T) {
	d, _ := keeps(t, based(2, 2, 5, 1, "snap", "1a", "2b"))
	n := open(t, "another life", d, 2, 3)
	if n.At() != 5 {
		t.Fatalf("At tells %d", n.At())
	}
	noNext(t, "another life", n)
	n = open(t, "alone", d, 0, 1)
	next(t, "alone", n, api.Given{Index: 6, View: 1, S: "a"})
	next(t, "alone", n, api.Given{Index: 7, View: 2, S: "b"})
	noNext(t, "alone", n)
}

// compacts is that Compact tells something without an error.
func compacts(t *testing.T, what string, n *rnode.Node, s string, should bool) {
	t.Helper()
	if ok, e := n.Compact(s); ok != should || e != api.OK {
		t.Fatalf("%s: Compact tells %t, error %d", what, ok, e)
	}
}

// Promise 14.1: Compact of all that was handed out, and of nothing new.
func TestCompact(t *testing.T) {
	d := disk.New()
	n := open(t, "Compact", d, 0, 1)
	compacts(t, "nothing was handed out", n, "x", false)
	for i, s := range []string{"a", "b", "c", "d"} {
		if index, _, e := n.Propose(s); index != i+1 || e != api.OK {
			t.Fatalf("Propose: %d, error %d", index, e)
		}
	}
	compacts(t, "committed, but not handed out", n, "x", false)
	next(t, "Compact", n, api.Given{Index: 1, S: "a"})
	next(t, "Compact", n, api.Given{Index: 2, S: "b"})
	compacts(t, "two", n, "two", true)
	p := &paper{snap: snapBytes(2, 0, "two"), records: []string{recBytes(0, 0, 2, log("0c", "0d")...)}}
	p.stands(t, "two", d)
	has(t, "two", n, shadow(t, 0, 1, based(0, 0, 2, 0, "two", "0c", "0d")), 2)
	changes := d.Changes()
	compacts(t, "two again", n, "again", false)
	if s, index := n.Base(); s != "two" || index != 2 || d.Changes() != changes {
		t.Fatalf("Base tells %q, %d behind %d changes", s, index, d.Changes()-changes)
	}
	next(t, "behind the snapshot", n, api.Given{Index: 3, S: "c"})
	compacts(t, "three", n, "", true)
	if s, index := n.Base(); s != "" || index != 3 || n.At() != 3 {
		t.Fatalf("Base tells %q, %d", s, index)
	}
	next(t, "behind the snapshot", n, api.Given{Index: 4, S: "d"})
	noNext(t, "all", n)
	compacts(t, "four", n, "four", true)
	(&paper{snap: snapBytes(4, 0, "four"), records: []string{recBytes(0, 0, 4)}}).stands(t, "four", d)
	if index, _, e := n.Propose("e"); index != 5 || e != api.OK {
		t.Fatalf("Propose: %d, error %d", index, e)
	}
	next(t, "behind all", n, api.Given{Index: 5, S: "e"})
	d.Crash(0, 0)
	d.Up()
	n = open(t, "another life", d, 0, 1)
	compacts(t, "another life has handed out the snapshot alone", n, "x", false)
	next(t, "another life", n, api.Given{Index: 5, S: "e"})
	compacts(t, "another life", n, "five", true)
}

// Promise 14.1: a snapshot that came, and was not handed out, is not laid below what is there.
func TestCompactBelowSnapshot(t *testing.T) {
	n := open(t, "below", disk.New(), 1, 3)
	steps(t, n, prepare(0, 1, 0, 0, 2, log("0a", "0b")...))
	next(t, "below", n, api.Given{Index: 1, S: "a"})
	steps(t, n, whole(api.ViewBegin, 2, 1, 6, based(2, 2, 5, 1, "snap", "1f")))
	compacts(t, "below", n, "x", false)
	if s, index := n.Base(); s != "snap" || index != 5 || n.At() != 1 {
		t.Fatalf("Base tells %q, %d, At %d", s, index, n.At())
	}
	next(t, "below", n, api.Given{Index: 5, View: 1, S: "snap", Snap: true})
	compacts(t, "just that", n, "x", false)
	next(t, "behind", n, api.Given{Index: 6, View: 1, S: "f"})
	compacts(t, "behind", n, "six", true)
}

// Promise 14.1: Compact makes room in one that is full.
func TestCompactMakesRoom(t *testing.T) {
	d, _ := keeps(t, api.Hard{Log: many(1, 1000)})
	n := open(t, "full", d, 0, 1)
	for range 600 {
		n.Next()
	}
	if index, l, e := n.Propose("x"); index != 0 || l != nil || e != api.OK {
		t.Fatalf("Propose of one that is full: %d, %v, error %d", index, l, e)
	}
	compacts(t, "full", n, "s", true)
	if index, _, e := n.Propose("x"); index != 1001 || e != api.OK {
		t.Fatalf("Propose: %d, error %d", index, e)
	}
	for i := 601; i <= 1000; i++ {
		next(t, "full", n, api.Given{Index: i, S: fmt.Sprint(i)})
	}
	next(t, "full", n, api.Given{Index: 1001, S: "x"})
}

// Promises 14.1, 14.2: entries behind the greatest index of a snapshot are kept, too, but no snapshot of them, since it could not be read back.
func TestGreatestIndex(t *testing.T) {
	d, p := keeps(t, based(0, 0, most-1, 0, "s", "0a"))
	n := open(t, "the greatest", d, 0, 1)
	for i, s := range []string{"b", "c"} {
		if index, _, e := n.Propose(s); index != most+1+i || e != api.OK {
			t.Fatalf("Propose: %d, error %d", index, e)
		}
	}
	p.keep(based(0, 0, most-1, 0, "s", "0a", "0b"))
	p.keep(based(0, 0, most-1, 0, "s", "0a", "0b", "0c"))
	p.stands(t, "the greatest", d)
	n = open(t, "another life", d, 0, 1)
	next(t, "another life", n, api.Given{Index: most, S: "a"})
	compacts(t, "the greatest", n, "t", true)
	next(t, "another life", n, api.Given{Index: most + 1, S: "b"})
	compacts(t, "above the greatest", n, "u", false)
	n = open(t, "a third life", d, 0, 1)
	has(t, "a third life", n, shadow(t, 0, 1, based(0, 0, most, 0, "t", "0b", "0c")), most)
}

// Promise 14.1: what the disk has is handed out of one without power, too; nothing that it has not.
func TestNextWithoutPower(t *testing.T) {
	d := disk.New()
	n := open(t, "without power", d, 0, 1)
	if _, _, e := n.Propose("a"); e != api.OK {
		t.Fatal(e)
	}
	d.Plan([]api.Fall{{At: d.Changes()}})
	if index, _, e := n.Propose("b"); index != 0 || e != api.ErrDead {
		t.Fatalf("Propose: %d, error %d", index, e)
	}
	next(t, "without power", n, api.Given{Index: 1, S: "a"})
	noNext(t, "without power", n)
	d, _ = keeps(t, hard(0, 0, "0a", "0b"))
	n = open(t, "without power", d, 1, 3)
	d.Plan([]api.Fall{{At: d.Changes()}})
	if l, e := n.Step(whole(api.ViewBegin, 2, 1, 6, based(2, 2, 5, 1, "snap", "1f"))); l != nil || e != api.ErrDead {
		t.Fatalf("Step: %v, error %d", l, e)
	}
	noNext(t, "a snapshot that was not kept", n)
}
