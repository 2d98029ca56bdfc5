package view_test

import (
	"fmt"
	"testing"

	"cohort/api"
	"cohort/view"
)

// place is a master in a state, among three, in view 3 (which 0 leads); some entries behind a snapshot of four.
type place struct {
	name string
	me   int
	h    api.Hard
}

func leader() place { return place{"the leader", 0, based(3, 3, 4, 2, "snap", "2e", "3f")} }
func follower() place {
	return place{"a follower", 1, based(3, 3, 4, 2, "snap", "2e", "3f")}
}
func next() place  { return place{"who is to lead", 0, based(3, 2, 4, 2, "snap", "2e", "2f")} }
func other() place { return place{"one that changes", 1, based(3, 2, 4, 2, "snap", "2e", "2f")} }

// with is the place with something else kept.
func (p place) with(of, normal int, l ...string) api.Hard {
	return based(of, normal, 4, 2, "snap", l...)
}

// steps is that a message at a place lets something be told and kept.
func steps(t *testing.T, p place, m api.ViewMsg, h api.Hard, commit int, wanted ...api.ViewMsg) *view.Node {
	t.Helper()
	n := stand(t, p.me, 3, p.h)
	what := fmt.Sprintf("%s: %s", p.name, show(msgs(m)))
	told(t, what, n.Step(m), wanted...)
	has(t, what, n, h, commit)
	switch {
	case h.View != h.Normal:
		is(t, what, n, api.Changing, -1, false)
	case h.View%3 == p.me:
		is(t, what, n, api.Leader, p.me, commit == h.BaseIndex+len(h.Log))
	default:
		is(t, what, n, api.Follower, h.View%3, false)
	}
	return n
}

// ignores is that a message at a place does nothing.
func ignores(t *testing.T, p place, m api.ViewMsg) {
	t.Helper()
	steps(t, p, m, p.h, 4)
}

// Promise 13.1: a message of any kind of a lesser View does nothing.
func TestStepLesser(t *testing.T) {
	for _, p := range []place{leader(), follower(), next(), other()} {
		for of := range 3 {
			for from := range 3 {
				for kind := 1; kind <= 6; kind++ {
					if from == p.me {
						continue
					}
					ignores(t, p, bare(kind, from, p.me, of))
					m := whole(kind, from, p.me, 9, based(of, of, 4, 2, "snap", "2e", "3f", "3g"))
					ignores(t, p, m)
				}
			}
		}
	}
}

// Promise 13.1: a message that is not to it, or that may not be, does nothing.
func TestStepNotForIt(t *testing.T) {
	for _, p := range []place{leader(), follower(), next(), other()} {
		for of := 3; of < 8; of++ {
			for kind := -1; kind <= 8; kind++ {
				for from := -1; from <= 3; from++ {
					for to := -1; to <= 3; to++ {
						if to == p.me && kind >= 1 && kind <= 6 && from >= 0 && from <= 2 && from != to {
							continue
						}
						ignores(t, p, bare(kind, from, to, of))
						ignores(t, p, whole(kind, from, to, 9, based(of, of, 4, 2, "snap", "2e", "3f", "3g")))
					}
				}
			}
		}
	}
	spoil := []func(m *api.ViewMsg){
		func(m *api.ViewMsg) { m.View = most + 1 },
		func(m *api.ViewMsg) { m.View = -1 },
		func(m *api.ViewMsg) { m.Normal = m.View + 1 },
		func(m *api.ViewMsg) { m.Normal = -1 },
		func(m *api.ViewMsg) { m.Index = -1 },
		func(m *api.ViewMsg) { m.Index = most + 1 },
		func(m *api.ViewMsg) { m.Commit = -1 },
		func(m *api.ViewMsg) { m.Commit = most + 1 },
		func(m *api.ViewMsg) { m.BaseIndex = -1 },
		func(m *api.ViewMsg) { m.BaseIndex = most + 1 },
		func(m *api.ViewMsg) { m.BaseView = -1 },
		func(m *api.ViewMsg) { m.BaseView = most + 1 },
		func(m *api.ViewMsg) { m.Entries = many(1, 1001) },
	}
	for _, p := range []place{leader(), follower(), next(), other()} {
		for _, f := range spoil {
			for kind := 1; kind <= 6; kind++ {
				for of := 3; of < 6; of++ {
					for from := range 3 {
						if from == p.me {
							continue
						}
						m := whole(kind, from, p.me, 9, based(of, of, 4, 2, "snap", "2e", "3f", "3g"))
						f(&m)
						ignores(t, p, m)
					}
				}
			}
		}
	}
}

// Promise 13.1: ViewWant of the same View and of greater ones.
func TestStepWant(t *testing.T) {
	p := leader()
	steps(t, p, want(1, 0, 3), p.h, 4, begin(0, 1, 4, p.h))
	steps(t, p, want(2, 0, 3), p.h, 4, begin(0, 2, 4, p.h))
	h := p.with(4, 3, "2e", "3f")
	steps(t, p, want(1, 0, 4), h, 4, want(0, 1, 4), want(0, 2, 4), give(0, 1, 4, h))
	h = p.with(5, 3, "2e", "3f")
	steps(t, p, want(1, 0, 5), h, 4, want(0, 1, 5), want(0, 2, 5), give(0, 2, 4, h))
	h = p.with(6, 3, "2e", "3f")
	steps(t, p, want(1, 0, 6), h, 4, want(0, 1, 6), want(0, 2, 6))

	p = follower()
	ignores(t, p, want(0, 1, 3))
	ignores(t, p, want(2, 1, 3))
	h = p.with(4, 3, "2e", "3f")
	steps(t, p, want(0, 1, 4), h, 4, want(1, 0, 4), want(1, 2, 4))
	h = p.with(5, 3, "2e", "3f")
	steps(t, p, want(2, 1, 5), h, 4, want(1, 0, 5), want(1, 2, 5), give(1, 2, 4, h))

	p = next()
	steps(t, p, want(1, 0, 3), p.h, 4)
	h = p.with(4, 2, "2e", "2f")
	steps(t, p, want(2, 0, 4), h, 4, want(0, 1, 4), want(0, 2, 4), give(0, 1, 4, h))

	p = other()
	steps(t, p, want(0, 1, 3), p.h, 4, give(1, 0, 4, p.h))
	steps(t, p, want(2, 1, 3), p.h, 4, give(1, 0, 4, p.h))
	h = p.with(most, 2, "2e", "2f") // which the master 1 leads
	steps(t, p, want(2, 1, most), h, 4, want(1, 0, most), want(1, 2, most))
	h = p.with(4, 2, "2e", "2f")
	steps(t, p, want(2, 1, 4), h, 4, want(1, 0, 4), want(1, 2, 4))
}

// Promise 13.1: ViewGive of the same View and of greater ones.
func TestStepGive(t *testing.T) {
	p := leader()
	steps(t, p, give(1, 0, 9, hard(3, 2, "0a")), p.h, 4, begin(0, 1, 4, p.h))
	h := p.with(4, 3, "2e", "3f")
	steps(t, p, give(1, 0, 9, hard(4, 2, "0a")), h, 4, want(0, 1, 4), want(0, 2, 4))
	h = p.with(6, 6, "2e", "3f")
	steps(t, p, give(1, 0, 5, hard(6, 2, "0a")), h, 5, want(0, 1, 6), want(0, 2, 6), begin(0, 1, 5, h), begin(0, 2, 5, h))

	p = follower()
	ignores(t, p, give(0, 1, 9, hard(3, 2, "0a")))
	ignores(t, p, give(2, 1, 9, hard(3, 2, "0a")))
	h = p.with(5, 3, "2e", "3f")
	n := steps(t, p, give(0, 1, 9, hard(5, 2, "0a")), h, 4, want(1, 0, 5), want(1, 2, 5))
	told(t, "who gave to the wrong one did not say that it wants it", n.Step(ask(0, 1, 5)))
	told(t, "then it says so", n.Step(want(0, 1, 5)), give(1, 2, 4, h))
	h = p.with(4, 4, "2e", "3f")
	steps(t, p, give(0, 1, 0, hard(4, 2, "0a")), h, 4, want(1, 0, 4), want(1, 2, 4), begin(1, 0, 4, h), begin(1, 2, 4, h))

	p = next()
	h = p.with(3, 3, "2e", "2f")
	steps(t, p, give(2, 0, 6, hard(3, 1, "0a")), h, 6, begin(0, 1, 6, h), begin(0, 2, 6, h))
	h = p.with(5, 2, "2e", "2f")
	steps(t, p, give(1, 0, 6, hard(5, 1, "0a")), h, 4, want(0, 1, 5), want(0, 2, 5))

	p = other()
	ignores(t, p, give(0, 1, 9, hard(3, 1, "0a")))
	ignores(t, p, give(2, 1, 9, hard(3, 1, "0a")))
}

// Promise 13.1: ViewAsk of the same View and of greater ones.
func TestStepAsk(t *testing.T) {
	p := leader()
	steps(t, p, ask(1, 0, 3), p.h, 4, begin(0, 1, 4, p.h))
	steps(t, p, ask(2, 0, 3), p.h, 4, begin(0, 2, 4, p.h))
	for _, of := range []int{4, 5, 6, most} {
		ignores(t, p, ask(1, 0, of))
	}
	for _, p := range []place{follower(), other()} {
		for _, of := range []int{3, 4, 5, 7, most} {
			ignores(t, p, ask(0, 1, of))
			ignores(t, p, ask(2, 1, of))
		}
	}
	for _, of := range []int{3, 4, 6, most} {
		ignores(t, next(), ask(1, 0, of))
	}
}

// Promise 13.1: ViewBegin of the same View and of greater ones, from who leads that and from who does not.
func TestStepBegin(t *testing.T) {
	h := func(of int, l ...string) api.Hard { return based(of, of, 4, 2, "snap", l...) }
	p := leader()
	ignores(t, p, begin(1, 0, 9, h(3, "2e", "3f", "3g")))
	ignores(t, p, begin(2, 0, 9, h(4, "2e", "3f", "3g")))
	steps(t, p, begin(1, 0, 9, h(4, "2e", "4x")), h(4, "2e", "4x"), 6, okay(0, 1, 4, 6))
	steps(t, p, begin(2, 0, 5, h(5, "2e")), h(5, "2e"), 5, okay(0, 2, 5, 5))

	p = follower()
	ignores(t, p, begin(2, 1, 9, h(3, "2e", "3f", "3g")))
	steps(t, p, begin(0, 1, 5, h(3, "2e", "3f", "3g")), h(3, "2e", "3f", "3g"), 5, okay(1, 0, 3, 7))
	steps(t, p, begin(0, 1, 9, h(3, "2e", "3x")), p.h, 6, okay(1, 0, 3, 6))
	steps(t, p, begin(0, 1, 0, h(3, "2e")), p.h, 4, okay(1, 0, 3, 6))
	ignores(t, p, begin(0, 1, 9, h(5, "2e", "3f", "3g")))
	steps(t, p, begin(2, 1, 9, h(5, "2e")), h(5, "2e"), 5, okay(1, 2, 5, 5))
	steps(t, p, begin(2, 1, 0, h(5)), h(5), 4, okay(1, 2, 5, 4))

	p = next()
	ignores(t, p, begin(1, 0, 9, h(3, "2e", "3f", "3g")))
	ignores(t, p, begin(2, 0, 9, h(3, "2e", "3f", "3g")))
	steps(t, p, begin(1, 0, 9, h(7, "2e", "7f")), h(7, "2e", "7f"), 6, okay(0, 1, 7, 6))

	p = other()
	ignores(t, p, begin(2, 1, 9, h(3, "2e", "3f", "3g")))
	steps(t, p, begin(0, 1, 5, h(3, "2e")), h(3, "2e"), 5, okay(1, 0, 3, 5))
	steps(t, p, begin(0, 1, 5, h(3, "2e", "3x")), h(3, "2e", "3x"), 5, okay(1, 0, 3, 6))
	steps(t, p, begin(2, 1, 5, h(8, "2e", "8x")), h(8, "2e", "8x"), 5, okay(1, 2, 8, 6))
	ignores(t, p, begin(0, 1, 5, h(8, "2e", "8x")))
	m := begin(0, 1, 5, h(3, "2e")) // its Normal is not asked for
	m.Normal = 0
	steps(t, p, m, h(3, "2e"), 5, okay(1, 0, 3, 5))
}

// Promise 13.1: behind ViewBegin what was gathered is forgotten.
func TestStepBeginForgets(t *testing.T) {
	n := stand(t, 1, 5, hard(3, 2))
	told(t, "one wants it", n.Step(want(0, 1, 3)))
	told(t, "a later view begins", n.Step(begin(4, 1, 0, hard(4, 4))), okay(1, 4, 4, 0))
	told(t, "the next one", n.Step(want(2, 1, 5)), wants(1, 5, 5)...)
	told(t, "three", n.Step(want(0, 1, 5)), give(1, 0, 0, hard(5, 4)))
}

// Promise 13.1: ViewPrepare of the same View and of greater ones, from who leads that and from who does not.
func TestStepPrepare(t *testing.T) {
	more := log("3g")
	p := leader()
	ignores(t, p, prepare(1, 0, 3, 6, 6))
	ignores(t, p, prepare(2, 0, 4, 6, 6))
	steps(t, p, prepare(1, 0, 4, 0, 6), p.h, 4, ask(0, 1, 4))
	steps(t, p, prepare(2, 0, 5, 6, 6, more...), p.h, 4, ask(0, 2, 5))

	p = follower()
	ignores(t, p, prepare(2, 1, 3, 6, 6, more...))
	steps(t, p, prepare(0, 1, 3, 6, 5), p.h, 5, okay(1, 0, 3, 6))
	steps(t, p, prepare(0, 1, 3, 6, 9, more...), p.with(3, 3, "2e", "3f", "3g"), 7, okay(1, 0, 3, 7))
	steps(t, p, prepare(0, 1, 3, 0, 0), p.h, 4, okay(1, 0, 3, 6))
	steps(t, p, prepare(0, 1, 3, 7, 9), p.h, 4, ask(1, 0, 3))
	steps(t, p, prepare(0, 1, 3, most, most), p.h, 4, ask(1, 0, 3))
	steps(t, p, prepare(0, 1, 6, 6, 9, more...), p.h, 4, ask(1, 0, 6))
	steps(t, p, prepare(2, 1, 5, 0, 0), p.h, 4, ask(1, 2, 5))
	ignores(t, p, prepare(0, 1, 5, 6, 6))

	p = next()
	ignores(t, p, prepare(1, 0, 3, 6, 6))
	steps(t, p, prepare(1, 0, 4, 6, 6), p.h, 4, ask(0, 1, 4))

	p = other()
	ignores(t, p, prepare(2, 1, 3, 6, 6))
	steps(t, p, prepare(0, 1, 3, 6, 6), p.h, 4, ask(1, 0, 3))
	steps(t, p, prepare(0, 1, 3, 0, 0, more...), p.h, 4, ask(1, 0, 3))
	steps(t, p, prepare(0, 1, most-1, 0, 0), p.h, 4, ask(1, 0, most-1))
}

// Promise 13.1: ViewOk of the same View and of greater ones.
func TestStepOk(t *testing.T) {
	p := leader()
	steps(t, p, okay(1, 0, 3, 6), p.h, 6)
	steps(t, p, okay(2, 0, 3, 5), p.h, 5, prepare(0, 2, 3, 5, 5, log("3f")...))
	ignores(t, p, okay(1, 0, 6, 6))
	for _, p := range []place{follower(), other()} {
		for of := 3; of < 8; of++ {
			ignores(t, p, okay(0, 1, of, 6))
			ignores(t, p, okay(2, 1, of, 6))
		}
	}
	ignores(t, next(), okay(1, 0, 3, 6))
	ignores(t, next(), okay(1, 0, 6, 6))
}

// R2: what is handed in to Step is as it was and may be changed later; what is told may be changed.
func TestStepIsTheCallers(t *testing.T) {
	for name, m := range map[string]api.ViewMsg{
		"ViewPrepare":             prepare(0, 1, 3, 6, 0),
		"ViewBegin":               begin(0, 1, 0, based(3, 3, 4, 2, "snap", "2e", "3f")),
		"ViewBegin of a later":    begin(2, 1, 0, based(5, 5, 4, 2, "snap", "2e", "3f")),
		"ViewBegin of a snapshot": begin(2, 1, 0, based(5, 5, 6, 3, "snap")),
	} {
		room := append(append([]api.LogEntry{}, m.Entries...), log("3g", "3h", "3room", "3room")...)
		at := len(m.Entries)
		m.Entries = room[: at+2 : at+4]
		if m.Kind == api.ViewBegin {
			m.Index = m.BaseIndex + at + 2
		}
		n, _ := follows(t)
		n.Step(m)
		room[at].S, room[0].S = "changed", "changed"
		h := n.Hard()
		if l := h.Log; h.BaseIndex+len(l) != 8 || l[len(l)-1] != (api.LogEntry{View: 3, S: "h"}) || l[len(l)-2] != (api.LogEntry{View: 3, S: "g"}) {
			t.Errorf("%s: keeps %v", name, h)
		}
		n.Step(prepare(h.View%3, 1, h.View, 8, 0, log("9x", "9y")...))
		if room[at+2].S != "room" || room[at+3].S != "room" {
			t.Errorf("%s: what was handed in is now %v", name, room)
		}
		room[at+1].S = "changed"
		if h := n.Hard(); len(h.Log)+h.BaseIndex != 10 || h.Log[len(h.Log)-3].S != "h" {
			t.Errorf("%s: then keeps %v", name, h)
		}
	}
	n, h := leads(t)
	for _, m := range msgs(ask(1, 0, 3), okay(1, 0, 3, 4)) {
		out := n.Step(m)
		out[0].Entries[0] = api.LogEntry{View: 99, S: "changed"}
		_ = append(out[0].Entries[:1], log("9x", "9y", "9z")...)
		has(t, "what is told is changed", n, h, 4)
	}
}

// Example 1, and what is agreed on goes over to the next view.
func TestExample(t *testing.T) {
	var l []*view.Node
	for i := range 3 {
		l = append(l, stand(t, i, 3, api.Hard{}))
		is(t, "from the beginning", l[i], []int{api.Leader, api.Follower, api.Follower}[i], 0, i == 0)
	}
	deliver := func(net []api.ViewMsg, gone int) {
		for len(net) > 0 {
			m := net[0]
			net = net[1:]
			if m.To != gone && m.From != gone {
				net = append(net, l[m.To].Step(m)...)
			}
		}
	}
	_, out, _ := l[0].Propose("a")
	deliver(out, -1)
	for range 40 {
		for i := 1; i < 3; i++ {
			deliver(l[i].Tick(), 0)
		}
		if l[1].Role() == api.Leader {
			break
		}
	}
	is(t, "0 is gone", l[1], api.Leader, 1, true)
	is(t, "0 is gone", l[2], api.Follower, 1, false)
	has(t, "0 is gone", l[1], hard(1, 1, "0a"), 1)
	_, out, ok := l[1].Propose("b")
	deliver(out, 0)
	if e, is := l[1].Entry(2); !ok || !is || e != (api.LogEntry{View: 1, S: "b"}) {
		t.Errorf("%v", e)
	}
}
