package view_test

import (
	"fmt"
	"testing"

	"cohort/api"
	"cohort/view"
)

// begins is what one tells whose view begins.
func begins(me, all, commit int, h api.Hard) []api.ViewMsg {
	var out []api.ViewMsg
	for i := range all {
		if i != me {
			out = append(out, begin(me, i, commit, h))
		}
	}
	return out
}

// Promise 13.1: to go over: the view is another one, and has not begun; ViewWant to all others, with nothing more.
func TestGoOver(t *testing.T) {
	for all := 2; all <= 7; all++ {
		for me := range all {
			for _, of := range []int{1, 2, 3, 6, 7, 8, 100, most} {
				for _, kind := range []int{api.ViewWant, api.ViewGive} {
					what := fmt.Sprintf("%d of %d to view %d by kind %d", me, all, of, kind)
					n := stand(t, me, all, api.Hard{Log: log("0a")})
					from := (me + 1) % all
					out := n.Step(bare(kind, from, me, of))
					h := hard(of, 0, "0a")
					should := wants(me, all, of)
					leads := of%all == me
					switch {
					case all > 3 || kind == api.ViewGive && !leads: // not more than half want it, as far as it knows
					case leads && kind == api.ViewGive: // they are more than half, and both gave
						h.Normal = of
						should = append(should, begins(me, all, 0, h)...)
					case leads: // more than half want it, but nobody else gave
					default:
						should = append(should, give(me, of%all, 0, h))
					}
					told(t, what, out, should...)
					has(t, what, n, h, 0)
					if h.Normal == of {
						is(t, what, n, api.Leader, me, false)
					} else {
						is(t, what, n, api.Changing, -1, false)
					}
				}
			}
		}
	}
}

// Promise 13.1: it gives once, when more than half want its view, with itself.
func TestGivesOnce(t *testing.T) {
	for all := 2; all <= 7; all++ {
		what := fmt.Sprintf("among %d", all)
		of := 2*all - 1 // that the last one leads
		h := based(of, 1, 2, 1, "s", "1c", "1d")
		n := stand(t, 0, all, h)
		given := 0
		for round := range 3 {
			for i := 1; i < all; i++ {
				for range 2 { // and one that wants it twice is one
					out := n.Step(want(i, 0, of))
					if round == 0 && 2*(i+1) > all && given == 0 {
						told(t, what, out, give(0, all-1, 2, h))
						given++
						continue
					}
					told(t, what, out)
				}
			}
		}
		if given != 1 {
			t.Fatalf("%s: it gave %d times", what, given)
		}
		has(t, what, n, h, 2)
		is(t, what, n, api.Changing, -1, false)
	}
}

// Promise 13.1: it gives again in another view, and only what is wanted there counts.
func TestGivesInNextView(t *testing.T) {
	n := stand(t, 0, 5, hard(3, 2, "0a"))
	told(t, "one", n.Step(want(1, 0, 3)))
	told(t, "two", n.Step(want(2, 0, 3)), give(0, 3, 0, hard(3, 2, "0a")))
	told(t, "the next view", n.Step(want(1, 0, 4)), wants(0, 5, 4)...)
	told(t, "a lesser view", n.Step(want(2, 0, 3)))
	told(t, "the same one", n.Step(want(1, 0, 4)))
	told(t, "two in the next view", n.Step(want(2, 0, 4)), give(0, 4, 0, hard(4, 2, "0a")))
	told(t, "by waiting", n.Step(want(3, 0, 4)))
	ticks(t, "by waiting", n, patience(0, 4)-1)
	told(t, "by waiting", n.Tick(), wants(0, 5, 5)...)
	told(t, "one in that", n.Step(want(3, 0, 5)))
	told(t, "two in that, which it leads", n.Step(want(4, 0, 5)))
	is(t, "wanted, but not given", n, api.Changing, -1, false)
}

// Promise 13.1: a leader begins when it and those that gave are more than half, not when they are wanted alone.
func TestBeginsWhenGiven(t *testing.T) {
	for all := 2; all <= 7; all++ {
		for from := range all - 1 {
			for _, wanted := range []bool{false, true} {
				what := fmt.Sprintf("among %d, from %d on, wanted %t", all, from, wanted)
				n := stand(t, 0, all, hard(all, 1, "0a"))
				if wanted {
					for i := 1; i < all; i++ {
						told(t, what, n.Step(want(i, 0, all)))
					}
				}
				for k := range all - 1 {
					i := 1 + (from+k)%(all-1)
					for range 2 { // one that gives twice is one, unless the view has begun
						m := give(i, 0, 0, hard(all, 1, "0a"))
						begun := n.Role() == api.Leader
						out := n.Step(m)
						switch {
						case begun:
							told(t, what, out, begin(0, i, 0, hard(all, all, "0a")))
						case 2*(k+2) > all:
							told(t, what, out, begins(0, all, 0, hard(all, all, "0a"))...)
							is(t, what, n, api.Leader, 0, false)
						default:
							told(t, what, out)
							is(t, what, n, api.Changing, -1, false)
						}
					}
				}
				has(t, what, n, hard(all, all, "0a"), 0)
			}
		}
	}
}

// Promise 13.1: those that gave in another view, and those that only want this one, have not given.
func TestBeginsNotWithOld(t *testing.T) {
	n := stand(t, 0, 5, hard(5, 1))
	told(t, "one gave", n.Step(give(1, 0, 0, hard(5, 1))))
	told(t, "the next view of its own", n.Step(want(1, 0, 10)), wants(0, 5, 10)...)
	told(t, "another one gives", n.Step(give(2, 0, 0, hard(10, 1))))
	told(t, "one that gave in the view ahead wants this", n.Step(want(3, 0, 10)))
	is(t, "two of five", n, api.Changing, -1, false)
	told(t, "a third one", n.Step(give(1, 0, 0, hard(10, 1))), begins(0, 5, 0, hard(10, 10))...)
}

// lead is the master 0 of five in view 5 when three have given: two of them something.
func lead(t *testing.T, own api.Hard, commit int, a, b api.ViewMsg) (*view.Node, []api.ViewMsg) {
	t.Helper()
	n := stand(t, 0, 5, own)
	if commit > own.BaseIndex {
		told(t, "committed", n.Step(prepare(own.View%5, 0, own.View, own.BaseIndex+len(own.Log), commit)), okay(0, own.View%5, own.View, own.BaseIndex+len(own.Log)))
	}
	n.Step(want(1, 0, 5))
	told(t, "one gave", n.Step(a))
	return n, n.Step(b)
}

// Promise 13.1: of the logs that were given it takes the one of the greatest Normal, of these the one with the greatest last index, its own first, then that of the least number.
func TestWhichLog(t *testing.T) {
	for _, c := range []struct {
		name      string
		own, a, b api.Hard // of the masters 0, 3 and 2
		takes     api.Hard
	}{
		{"its own of the greatest Normal", hard(2, 2, "2a"), hard(5, 1, "0a", "0b"), hard(5, 0, "0a", "0b", "0c"), hard(5, 5, "2a")},
		{"another one of the greatest Normal", hard(2, 2, "2a", "2b"), hard(5, 3, "3a"), hard(5, 1, "1a", "1b", "1c"), hard(5, 5, "3a")},
		{"the other one of the greatest Normal", hard(2, 2, "2a", "2b"), hard(5, 1, "1a", "1b", "1c"), hard(5, 3, "3a"), hard(5, 5, "3a")},
		{"an empty one of the greatest Normal", hard(2, 2, "2a"), hard(5, 4), hard(5, 3, "3a"), hard(5, 5)},
		{"the greatest last index", hard(2, 2, "2a"), hard(5, 2, "2a", "2b"), hard(5, 2, "2a", "2b", "2c"), hard(5, 5, "2a", "2b", "2c")},
		{"the greatest last index, first given", hard(2, 2, "2a"), hard(5, 2, "2a", "2b", "2c"), hard(5, 2, "2a", "2b"), hard(5, 5, "2a", "2b", "2c")},
		{"its own of the greatest last index", hard(2, 2, "2a", "2b", "2c"), hard(5, 2, "2a", "2b"), hard(5, 2, "2a"), hard(5, 5, "2a", "2b", "2c")},
		{"its own first", hard(2, 2, "2own"), hard(5, 2, "2three"), hard(5, 2, "2two"), hard(5, 5, "2own")},
		{"then the least number", hard(2, 2, "2a"), hard(5, 3, "3three"), hard(5, 3, "3two"), hard(5, 5, "3two")},
		{"a snapshot that is ahead", hard(2, 2, "2a"), based(5, 2, 3, 2, "s", "2d"), hard(5, 2, "2a"), based(5, 5, 3, 2, "s", "2d")},
		{"a snapshot that is behind", based(2, 2, 2, 1, "s", "2c"), hard(5, 2, "1a", "1b", "2c", "2d"), hard(5, 0), based(5, 5, 2, 1, "s", "2c", "2d")},
		{"the last index, not how many there are", hard(2, 2, "2a", "2b", "2c"), based(5, 2, 4, 2, "s"), hard(5, 0), based(5, 5, 4, 2, "s")},
	} {
		commit := max(c.own.BaseIndex, c.takes.BaseIndex)
		n, out := lead(t, c.own, 0, give(3, 0, c.a.BaseIndex, c.a), give(2, 0, c.b.BaseIndex, c.b))
		told(t, c.name, out, begins(0, 5, commit, c.takes)...)
		has(t, c.name, n, c.takes, commit)
		is(t, c.name, n, api.Leader, 0, c.takes.BaseIndex+len(c.takes.Log) == commit)
	}
}

// Promise 13.1: what is committed when a view begins is the greatest Commit of all, up to its last.
func TestBeginsCommitted(t *testing.T) {
	own := hard(2, 2, "2a", "2b", "2c")
	for commit := range 4 {
		for _, a := range []int{0, 1, 2, 3, 4, 5, most} {
			for _, b := range []int{0, 2, 3, 4, 5, 6, most} {
				what := fmt.Sprintf("%d, %d, %d are committed", commit, a, b)
				n, out := lead(t, own, commit, give(4, 0, a, hard(5, 1, "1a")), give(3, 0, b, hard(5, 2, "2a", "2b", "2c", "2d", "2e")))
				should := hard(5, 5, "2a", "2b", "2c", "2d", "2e")
				all := min(max(commit, a, b), 5)
				told(t, what, out, begins(0, 5, all, should)...)
				has(t, what, n, should, all)
				is(t, what, n, api.Leader, 0, all == 5)
			}
		}
	}
}

// Promise 13.1: Ready asks for what it had when its view began, not for what was put later.
func TestReadyBegun(t *testing.T) {
	n, _ := lead(t, hard(2, 2, "2a"), 0, give(3, 0, 1, hard(5, 2, "2a", "2b", "2c")), give(2, 0, 0, hard(5, 2)))
	is(t, "begun", n, api.Leader, 0, false)
	n.Propose("d")
	n.Step(okay(1, 0, 5, 2))
	n.Step(okay(2, 0, 5, 2))
	is(t, "2", n, api.Leader, 0, false)
	n.Step(okay(1, 0, 5, 3))
	n.Step(okay(2, 0, 5, 3))
	is(t, "3", n, api.Leader, 0, true)
	if n.Commit() != 3 {
		t.Errorf("%d is committed", n.Commit())
	}
}

// Promise 13.1: a log that was given and may not be taken is not: it begins with its own.
func TestBeginsWithoutLog(t *testing.T) {
	own := hard(2, 2, "2a", "2b", "2c")
	for name, h := range map[string]api.Hard{
		"less than is committed":              hard(5, 4, "2a"),
		"another one where one is committed":  hard(5, 4, "2a", "2x", "2c", "2d"),
		"a snapshot, less than is committed":  based(5, 4, 1, 2, "s"),
		"another one behind another snapshot": based(5, 4, 1, 2, "s", "3b", "2c"),
	} {
		n, out := lead(t, own, 2, give(3, 0, 3, h), give(2, 0, 1, hard(5, 2)))
		told(t, name, out, begins(0, 5, 3, hard(5, 5, "2a", "2b", "2c"))...)
		has(t, name, n, hard(5, 5, "2a", "2b", "2c"), 3)
	}
}

// Promise 13.1: what is given with an Index that is not that of its log is not given, but wanted.
func TestGivenNotWhole(t *testing.T) {
	spoil := map[string]func(m *api.ViewMsg){
		"Index above":     func(m *api.ViewMsg) { m.Index++ },
		"Index below":     func(m *api.ViewMsg) { m.Index-- },
		"no Index":        func(m *api.ViewMsg) { m.Index = 0 },
		"BaseIndex above": func(m *api.ViewMsg) { m.BaseIndex++ },
		"no entries":      func(m *api.ViewMsg) { m.Entries = nil },
	}
	for name, f := range spoil {
		n := stand(t, 0, 3, hard(3, 1))
		m := give(1, 0, 0, hard(3, 2, "2a"))
		f(&m)
		told(t, name, n.Step(m))
		has(t, name, n, hard(3, 1), 0)
		is(t, name, n, api.Changing, -1, false)
		h := hard(3, 3, "2a", "2b")
		told(t, name+", then another one", n.Step(give(2, 0, 0, hard(3, 2, "2a", "2b"))), begins(0, 3, 0, h)...)

		n = stand(t, 0, 5, hard(5, 1))
		told(t, name, n.Step(give(2, 0, 0, hard(5, 1))))
		m = give(1, 0, 0, hard(5, 2, "2a"))
		f(&m)
		told(t, name+", the third that wants it", n.Step(m))
		told(t, name+", and the third that gave", n.Step(give(3, 0, 0, hard(5, 1))), begins(0, 5, 0, hard(5, 5))...)
	}
}

// Promise 13.1: the last that one gave is what it gave, and what was given whole stays beside what was not.
func TestGivenAgain(t *testing.T) {
	n := stand(t, 0, 5, hard(5, 1))
	told(t, "first", n.Step(give(1, 0, 3, hard(5, 2, "2a", "2b", "2c"))))
	told(t, "again", n.Step(give(1, 0, 1, hard(5, 2, "2a"))))
	m := give(1, 0, 9, hard(5, 2, "2x", "2y"))
	m.Index = 7
	told(t, "not whole", n.Step(m))
	told(t, "another one", n.Step(give(4, 0, 0, hard(5, 1))), begins(0, 5, 1, hard(5, 5, "2a"))...)
}

// R2: what is given can be changed later, and what is told, too.
func TestGivenIsTheCallers(t *testing.T) {
	n := stand(t, 0, 5, hard(5, 1))
	room := log("2a", "2b", "2c", "2d")
	m := give(1, 0, 0, hard(5, 2))
	m.Entries, m.Index = room[:2], 2
	told(t, "first", n.Step(m))
	room[0].S, room[1].S = "x", "y"
	out := n.Step(give(4, 0, 0, hard(5, 1)))
	h := hard(5, 5, "2a", "2b")
	told(t, "begun", out, begins(0, 5, 0, h)...)
	for i := range out {
		out[i].Entries[i%2].S = fmt.Sprint("changed by ", i)
		_ = append(out[i].Entries, log("9x")...)
	}
	for i := range out {
		for j := range out {
			if i != j && out[j].Entries[i%2].S == fmt.Sprint("changed by ", i) {
				t.Fatalf("what is told to %d and to %d is one list", out[i].To, out[j].To)
			}
		}
	}
	has(t, "changed", n, h, 0)
	n.Propose("c")
	if room[2].S != "c" || room[2].View != 2 {
		t.Errorf("what was handed in is now %v", room)
	}
	has(t, "gone on", n, hard(5, 5, "2a", "2b", "5c"), 0)
}
