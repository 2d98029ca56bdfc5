package view_test

import (
	"fmt"
	"math/rand"
	"slices"
	"testing"

	"cohort/api"
	"cohort/view"
	"cohort/wire"
)

// world is masters, what each has kept, and what is under way; and what anybody ever had committed.
type world struct {
	t      *testing.T
	name   string
	r      *rand.Rand
	nodes  []*view.Node // nil: without power
	kept   []api.Hard
	net    []api.ViewMsg
	agreed []api.LogEntry // from index 1 on
	put    map[string]placed
	least  []int // below what each has never had committed since it stood up
	views  int
	side   []int // nobody hears those of another side
}

// placed is where an entry was put.
type placed struct{ index, view int }

func newWorld(t *testing.T, name string, r *rand.Rand, all int) *world {
	w := &world{t: t, name: name, r: r, kept: make([]api.Hard, all), nodes: make([]*view.Node, all), least: make([]int, all), side: make([]int, all), put: map[string]placed{}}
	for i := range all {
		w.up(i)
	}
	return w
}

// history is the snapshot of all up to an index.
func (w *world) history(index int) string {
	s := ""
	for _, e := range w.agreed[:index] {
		s += fmt.Sprintf("%d%s;", e.View, e.S)
	}
	return s
}

func (w *world) up(i int) {
	if w.nodes[i] == nil {
		w.nodes[i] = stand(w.t, i, len(w.nodes), w.kept[i])
		w.least[i] = 0
		w.look(i)
	}
}

// does is what a master tells: it keeps what it must first. If the power fails ahead of that, nothing is told.
func (w *world) does(i int, out []api.ViewMsg, fails bool) bool {
	if fails {
		w.nodes[i] = nil
		return false
	}
	w.kept[i] = w.nodes[i].Hard()
	w.views = max(w.views, w.kept[i].View)
	for _, m := range out {
		if m.From != i || !view.Check(m, len(w.nodes)) || m.View > w.kept[i].View && m.Kind != api.ViewAsk {
			w.t.Fatalf("%s: %d tells%s", w.name, i, show(msgs(m)))
		}
		w.net = append(w.net, m)
	}
	w.look(i)
	return true
}

// look holds what a master has committed against what any had.
func (w *world) look(i int) {
	n := w.nodes[i]
	h, commit := n.Hard(), n.Commit()
	if commit < h.BaseIndex || commit > h.BaseIndex+len(h.Log) || commit < w.least[i] || len(h.Log) > 1000 {
		w.t.Fatalf("%s: %d has committed %d behind %d, and keeps %v", w.name, i, commit, w.least[i], h)
	}
	w.least[i] = commit
	if h.BaseIndex > len(w.agreed) || h.Base != w.history(h.BaseIndex) || h.BaseIndex > 0 && h.BaseView != w.agreed[h.BaseIndex-1].View {
		w.t.Fatalf("%s: %d has the snapshot %d %q", w.name, i, h.BaseIndex, h.Base)
	}
	for at := h.BaseIndex + 1; at <= commit; at++ {
		e, ok := n.Entry(at)
		if !ok {
			w.t.Fatalf("%s: %d has no entry %d", w.name, i, at)
		}
		if at > len(w.agreed) {
			if w.put[e.S] != (placed{at, e.View}) {
				w.t.Fatalf("%s: %d has %v at %d, which was put as %v", w.name, i, e, at, w.put[e.S])
			}
			w.agreed = append(w.agreed, e)
		}
		if e != w.agreed[at-1] {
			w.t.Fatalf("%s: %d has committed %v at %d, where %v is", w.name, i, e, at, w.agreed[at-1])
		}
	}
	if n.Ready() && n.View() == w.views && commit < len(w.agreed) {
		// Whoever leads the last view, and has committed what it had, has all that was committed in views ahead.
		for _, e := range w.agreed[commit:] {
			if e.View < n.View() {
				w.t.Fatalf("%s: %d leads view %d, and lacks %v", w.name, i, n.View(), e)
			}
		}
	}
}

func (w *world) tick(i int, fails bool) bool {
	return w.nodes[i] != nil && w.does(i, w.nodes[i].Tick(), fails)
}

// deliver lets a message come, in bytes as it would.
func (w *world) deliver(m api.ViewMsg, fails bool) {
	if w.nodes[m.To] == nil || w.side[m.From] != w.side[m.To] {
		return
	}
	b := wire.NewWriter()
	view.Put(b, m)
	r := wire.NewReader(b.All())
	got := view.Take(r)
	if r.End() != api.OK || !sameMsgs(msgs(got), msgs(m)) {
		w.t.Fatalf("%s: error %d for%s", w.name, r.Err(), show(msgs(m)))
	}
	w.does(m.To, w.nodes[m.To].Step(got), fails)
}

func (w *world) propose(i int, fails bool) {
	if w.nodes[i] == nil {
		return
	}
	s := fmt.Sprint("e", len(w.put))
	of := w.nodes[i].View()
	at, out, ok := w.nodes[i].Propose(s)
	if ok {
		w.put[s] = placed{at, of}
	}
	w.does(i, out, fails)
}

func (w *world) compact(i, index int, fails bool) {
	if n := w.nodes[i]; n != nil && index <= n.Commit() {
		n.Compact(index, w.history(max(index, 0)))
		w.does(i, nil, fails)
	}
}

// chance is how often what happens.
type chance struct{ lost, doubled, fails, falls, cuts, burst, puts, compacts int }

// happens lets something happen.
func (w *world) happens(c chance) {
	r, all := w.r, len(w.nodes)
	i := r.Intn(all)
	fails := r.Intn(1000) < c.fails
	if r.Intn(1000) < c.cuts {
		w.side[i] = r.Intn(2)
	}
	switch x := r.Intn(1000); {
	case x < c.puts:
		for j := range all {
			if w.nodes[j] != nil && w.nodes[j].Role() == api.Leader {
				w.propose(j, fails)
				return
			}
		}
	case x < c.puts+c.compacts:
		if w.nodes[i] != nil {
			w.compact(i, w.nodes[i].Commit()-r.Intn(3), fails)
		}
	case x < c.puts+c.compacts+c.falls:
		if w.nodes[i] == nil {
			w.up(i)
		} else {
			w.nodes[i] = nil
		}
	case x < c.puts+c.compacts+c.falls+c.burst:
		for range r.Intn(20) {
			w.tick(i, false)
		}
	case x < 700 && len(w.net) > 0:
		k := r.Intn(len(w.net))
		if r.Intn(2) == 0 {
			k = 0
		}
		m := w.net[k]
		if r.Intn(1000) >= c.doubled {
			w.net = slices.Delete(w.net, k, k+1)
		}
		if r.Intn(1000) >= c.lost {
			w.deliver(m, fails)
		}
	default:
		w.tick(i, fails)
	}
	for len(w.net) > 60 {
		k := r.Intn(len(w.net))
		w.net = slices.Delete(w.net, k, k+1)
	}
}

// settle lets nothing fail any more, until all masters have the same.
func (w *world) settle() {
	clear(w.side)
	for i := range w.nodes {
		w.up(i)
	}
	for round := range 400 {
		for i := range w.nodes {
			w.tick(i, false)
		}
		for many := 0; len(w.net) > 0 && many < 3000; many++ {
			m := w.net[0]
			w.net = w.net[1:]
			w.deliver(m, false)
		}
		if round > 0 && round%40 == 0 {
			for i, n := range w.nodes {
				if n.Ready() {
					w.propose(i, false)
				}
			}
		}
		if round%40 == 20 && w.isSettled() && round > 60 {
			return
		}
	}
	w.t.Fatalf("%s: not settled", w.name)
}

func (w *world) isSettled() bool {
	first := w.nodes[0]
	for _, n := range w.nodes {
		h := n.Hard()
		if n.View() != first.View() || n.Leader() != first.Leader() || n.Leader() < 0 || n.Commit() != len(w.agreed) || h.BaseIndex+len(h.Log) != len(w.agreed) {
			return false
		}
	}
	return len(w.agreed) > 0
}

// Promise 13.3: two that have committed an index have the same entry there, whatever is lost, doubled, late and out of order, and whoever stands up again from what it kept; and when nothing fails any more, all of them have all.
func TestAgree(t *testing.T) {
	chances := []chance{
		{puts: 60, burst: 20},
		{puts: 100, burst: 30, cuts: 30},
		{lost: 100, doubled: 100, puts: 60, burst: 10},
		{lost: 400, doubled: 200, fails: 5, falls: 10, burst: 30, puts: 40, compacts: 20},
		{lost: 50, doubled: 300, fails: 20, falls: 30, cuts: 10, burst: 50, puts: 100, compacts: 40},
		{lost: 10, fails: 2, falls: 4, cuts: 20, burst: 20, puts: 150, compacts: 10},
		{lost: 200, doubled: 500, falls: 60, burst: 80, puts: 80, compacts: 60},
	}
	many, views, down := 0, 0, 0
	for seed := range 1500 {
		all := 1 + seed%7
		c := chances[seed/7%len(chances)]
		w := newWorld(t, fmt.Sprintf("seed %d, %d masters", seed, all), rand.New(rand.NewSource(int64(seed))), all)
		for range 500 {
			w.happens(c)
		}
		for _, n := range w.nodes {
			if n == nil {
				down++
			}
		}
		w.settle()
		many, views = many+len(w.agreed), views+w.views
	}
	if many < 10000 || views < 3000 || down < 500 {
		t.Errorf("%d entries in %d views, %d were down", many, views, down)
	}
}

// link is from whom to whom.
type link struct{ from, to int }

// chosen lets the step at a place of a short list of steps happen.
func (w *world) chosen(step int) {
	all := len(w.nodes)
	switch {
	case step < all:
		for n := w.nodes[step]; n != nil && n.Role() != api.Leader; {
			of := n.View()
			if w.tick(step, false); n.View() != of {
				break
			}
		}
		if w.nodes[step].Role() == api.Leader {
			w.propose(step, false)
		}
	case step < 2*all:
		w.nodes[step-all] = nil
		w.up(step - all)
	default:
		var links []link
		for from := range all {
			for to := range all {
				if from != to {
					links = append(links, link{from, to})
				}
			}
		}
		l := links[step-2*all]
		is := func(m api.ViewMsg) bool { return m.From == l.from && m.To == l.to }
		var of []api.ViewMsg
		for _, m := range w.net {
			if is(m) {
				of = append(of, m)
			}
		}
		w.net = slices.DeleteFunc(w.net, is)
		for _, m := range of {
			w.deliver(m, false)
		}
	}
}

// Promise 13.3: three masters in all walks of a few steps, from one in which the leader's entry came to one other alone: somebody waits too long (or puts an entry, if it leads), stands up again, or hears all from another one.
func TestAgreeShort(t *testing.T) {
	const all, steps, long = 3, 12, 5
	walks := 1
	for range long {
		walks *= steps
	}
	for k := range walks {
		w := newWorld(t, fmt.Sprint("walk ", k), nil, all)
		w.chosen(0)
		for rest, i := k, 0; i < long; i++ {
			if i == 1 {
				w.net = slices.DeleteFunc(w.net, func(m api.ViewMsg) bool { return m.View == 0 && m.To == 2 })
			}
			w.chosen(rest % steps)
			rest /= steps
		}
	}
}

// Promise 13.3: an entry that a leader alone had may be gone, one that more than half had stays, when another one leads.
func TestWhatStays(t *testing.T) {
	w := newWorld(t, "what stays", nil, 3)
	w.propose(0, false)
	w.net = nil
	w.propose(0, false) // nobody else has either
	w.nodes[0], w.net = nil, nil
	for w.nodes[1].View() == 0 {
		w.tick(1, false)
	}
	for len(w.net) > 0 {
		m := w.net[0]
		w.net = w.net[1:]
		w.deliver(m, false)
	}
	is(t, "1 leads", w.nodes[1], api.Leader, 1, true)
	w.propose(1, false)
	for len(w.net) > 0 {
		m := w.net[0]
		w.net = w.net[1:]
		w.deliver(m, false)
	}
	if len(w.agreed) != 1 || w.agreed[0] != (api.LogEntry{View: 1, S: "e2"}) {
		t.Fatalf("agreed on %v", w.agreed)
	}
	w.up(0)
	if h := w.nodes[0].Hard(); len(h.Log) != 2 {
		t.Fatalf("0 kept %v", h)
	}
	w.settle()
	if h := w.nodes[0].Hard(); h.Log[0].S != "e2" || h.View != 1 {
		t.Fatalf("0 keeps %v", h)
	}
}
