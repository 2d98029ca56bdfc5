package rnode_test

import (
	"fmt"
	"math/rand"
	"slices"
	"testing"

	"cohort/api"
	"cohort/disk"
	"cohort/rnode"
)

// world is masters with disks, what is under way between them, and what any of them ever handed out.
type world struct {
	t     *testing.T
	name  string
	r     *rand.Rand
	disks []*disk.Disk
	nodes []*rnode.Node // nil: without power
	said  []api.Hard    // what each had when it last told something
	seen  []string      // the history, as each has it by what it was handed out
	net   []api.ViewMsg
	given []api.Given // from index 1 on
	puts  int
	falls int
}

func newWorld(t *testing.T, name string, r *rand.Rand, all int) *world {
	w := &world{t: t, name: name, r: r, disks: make([]*disk.Disk, all), nodes: make([]*rnode.Node, all), said: make([]api.Hard, all), seen: make([]string, all)}
	for i := range all {
		w.disks[i] = disk.New()
		w.up(i)
	}
	return w
}

// written is what stands on a disk for sure, read by others than package rnode.
func (w *world) written(i int) api.Hard {
	snap, records := lies(w.t, w.name, w.disks[i])
	var h api.Hard
	if snap != "" {
		p := &parse{s: snap}
		h.BaseIndex, h.BaseView, h.Base = p.number(), p.number(), p.text()
	}
	for _, s := range records {
		p := &parse{s: s}
		h.View, h.Normal = p.number(), p.number()
		h.Log = slices.Clone(h.Log[:p.number()-h.BaseIndex])
		for range p.number() {
			h.Log = append(h.Log, api.LogEntry{View: p.number(), S: p.text()})
		}
	}
	return h
}

// up lets a master stand up again: it must have what it told of, and nothing else.
func (w *world) up(i int) {
	if w.nodes[i] != nil {
		return
	}
	w.disks[i].Up()
	n, e := rnode.Open(w.disks[i], i, len(w.nodes))
	if e == api.ErrDead {
		return
	}
	if e != api.OK || !sameHard(n.View().Hard(), w.said[i]) {
		w.t.Fatalf("%s: %d stands up with error %d and %v, and told of %v", w.name, i, e, n.View().Hard(), w.said[i])
	}
	w.nodes[i] = n
	w.seen[i], _ = n.Base()
	w.look(i)
}

// does is what a call of a master told. Of an error nothing was told, and the master is gone.
func (w *world) does(i int, out []api.ViewMsg, e api.Errno) {
	n := w.nodes[i]
	if e != api.OK {
		if e != api.ErrDead || out != nil || !n.Dead() || !w.disks[i].Dead() {
			w.t.Fatalf("%s: %d tells error %d, %v", w.name, i, e, out)
		}
		w.nodes[i] = nil
		w.falls++
		return
	}
	h := n.View().Hard()
	if got := w.written(i); !sameHard(got, h) {
		w.t.Fatalf("%s: %d has %v, and its disk %v", w.name, i, h, got)
	}
	w.said[i] = h
	for _, m := range out {
		w.covers(h, m)
		w.net = append(w.net, m)
	}
	w.look(i)
}

// covers is that what is told is there.
func (w *world) covers(h api.Hard, m api.ViewMsg) {
	last := h.BaseIndex + len(h.Log)
	switch {
	case m.Kind != api.ViewAsk && m.View != h.View, m.Index > last && m.Kind != api.ViewAsk:
		w.t.Fatalf("%s: %v is told of, and kept is %v", w.name, m, h)
	case m.Kind == api.ViewPrepare:
		if !slices.Equal(m.Entries, h.Log[m.Index-h.BaseIndex:][:len(m.Entries)]) {
			w.t.Fatalf("%s: %v is told of, and kept is %v", w.name, m, h)
		}
	case m.Kind == api.ViewGive, m.Kind == api.ViewBegin:
		if !sameHard(h, api.Hard{View: m.View, Normal: m.Normal, BaseIndex: m.BaseIndex, BaseView: m.BaseView, Base: m.Base, Log: m.Entries}) {
			w.t.Fatalf("%s: %v is told of, and kept is %v", w.name, m, h)
		}
	}
}

// look takes what a master hands out, and holds it against what any was handed out.
func (w *world) look(i int) {
	n := w.nodes[i]
	for {
		at := n.At()
		g, ok := n.Next()
		if !ok {
			return
		}
		if g.Snap {
			if g.Index <= at || g.Index > len(w.given) || g.S != w.history(g.Index) {
				w.t.Fatalf("%s: %d hands out the snapshot %v behind %d", w.name, i, g, at)
			}
			w.seen[i] = g.S
			continue
		}
		if g.Index != at+1 || g.Index > len(w.given)+1 {
			w.t.Fatalf("%s: %d hands out %v behind %d", w.name, i, g, at)
		}
		if g.Index > len(w.given) {
			w.given = append(w.given, g)
		}
		if g != w.given[g.Index-1] {
			w.t.Fatalf("%s: %d hands out %v where %v was", w.name, i, g, w.given[g.Index-1])
		}
		w.seen[i] += g.S + ";"
		if w.seen[i] != w.history(g.Index) {
			w.t.Fatalf("%s: %d has %q", w.name, i, w.seen[i])
		}
	}
}

// history is the snapshot of all up to an index.
func (w *world) history(index int) string {
	s := ""
	for _, g := range w.given[:index] {
		s += g.S + ";"
	}
	return s
}

func (w *world) tick(i int) {
	if w.nodes[i] != nil {
		out, e := w.nodes[i].Tick()
		w.does(i, out, e)
	}
}

func (w *world) deliver(m api.ViewMsg) {
	if w.nodes[m.To] != nil {
		out, e := w.nodes[m.To].Step(m)
		w.does(m.To, out, e)
	}
}

func (w *world) propose(i int) {
	if w.nodes[i] != nil {
		w.puts++
		_, out, e := w.nodes[i].Propose(fmt.Sprint("e", w.puts))
		w.does(i, out, e)
	}
}

func (w *world) compact(i int) {
	if n := w.nodes[i]; n != nil {
		_, base := n.Base()
		at := n.At()
		ok, e := n.Compact(w.seen[i])
		if e == api.OK && ok != (at > base) {
			w.t.Fatalf("%s: %d has handed out %d behind %d, Compact tells %t", w.name, i, at, base, ok)
		}
		w.does(i, nil, e)
	}
}

// chance is how often what happens, of a thousand.
type chance struct{ lost, doubled, falls, crashes, burst, puts, compacts int }

// happens lets something happen.
func (w *world) happens(c chance) {
	r, all := w.r, len(w.nodes)
	i := r.Intn(all)
	if r.Intn(1000) < c.falls {
		w.disks[i].Plan([]api.Fall{{At: w.disks[i].Changes() + r.Intn(4), Keep: r.Intn(3), Torn: r.Intn(20)}})
	}
	switch x := r.Intn(1000); {
	case x < c.puts:
		for j := range all {
			if w.nodes[j] != nil && w.nodes[j].View().Role() == api.Leader {
				w.propose(j)
				return
			}
		}
	case x < c.puts+c.compacts:
		w.compact(i)
	case x < c.puts+c.compacts+c.crashes:
		w.disks[i].Crash(r.Intn(3), r.Intn(20))
		w.nodes[i] = nil
		if r.Intn(2) == 0 {
			w.up(i)
		}
	case x < c.puts+c.compacts+c.crashes+c.burst:
		for range r.Intn(20) {
			w.tick(i)
		}
	case x < 600 && len(w.net) > 0:
		k := r.Intn(len(w.net))
		if r.Intn(2) == 0 {
			k = 0
		}
		m := w.net[k]
		if r.Intn(1000) >= c.doubled {
			w.net = slices.Delete(w.net, k, k+1)
		}
		if r.Intn(1000) >= c.lost {
			w.deliver(m)
		}
	case x < 650:
		w.up(i)
	default:
		w.tick(i)
	}
	for len(w.net) > 50 {
		k := r.Intn(len(w.net))
		w.net = slices.Delete(w.net, k, k+1)
	}
}

// settle lets nothing fail any more, until all masters have handed out all.
func (w *world) settle() {
	for i := range w.nodes {
		w.disks[i].Plan(nil)
		w.up(i)
	}
	for round := range 400 {
		for i := range w.nodes {
			w.tick(i)
		}
		for many := 0; len(w.net) > 0 && many < 3000; many++ {
			m := w.net[0]
			w.net = w.net[1:]
			w.deliver(m)
		}
		if round > 0 && round%40 == 0 {
			for i, n := range w.nodes {
				if n.View().Ready() {
					w.propose(i)
				}
			}
		}
		if round > 60 && round%40 == 20 && !slices.ContainsFunc(w.nodes, func(n *rnode.Node) bool { return n.At() != len(w.given) || n.At() == 0 }) {
			return
		}
	}
	w.t.Fatalf("%s: not settled", w.name)
}

// Promise 14.2: whatever is lost, doubled and late, and wherever the power fails, each master has the view and the entries that it told of; what was handed out stays the same, at all of them; and when nothing fails any more, all have all.
func TestStays(t *testing.T) {
	chances := []chance{
		{falls: 20, puts: 60, burst: 20},
		{falls: 60, puts: 100, burst: 30, compacts: 40},
		{lost: 100, doubled: 100, falls: 5, crashes: 10, puts: 60, burst: 10},
		{lost: 400, doubled: 200, falls: 30, crashes: 10, burst: 30, puts: 40, compacts: 20},
		{lost: 50, doubled: 300, falls: 100, crashes: 30, burst: 50, puts: 100, compacts: 40},
		{lost: 10, falls: 4, crashes: 4, burst: 10, puts: 200, compacts: 5},
	}
	many, falls := 0, 0
	for seed := range 600 {
		all := 1 + seed%5
		c := chances[seed/5%len(chances)]
		w := newWorld(t, fmt.Sprintf("seed %d, %d masters", seed, all), rand.New(rand.NewSource(int64(seed))), all)
		for range 400 {
			w.happens(c)
		}
		w.settle()
		many, falls = many+len(w.given), falls+w.falls
	}
	if many < 5000 || falls < 1500 {
		t.Errorf("%d entries, the power failed %d times in a call", many, falls)
	}
}

// Promise 14.2: one master alone, through many lives: what it told is there, whatever entry the power fails at.
func TestStaysAlone(t *testing.T) {
	for every := 1; every <= 9; every++ {
		d := disk.New()
		var have []string
		for life := range 60 {
			what := fmt.Sprintf("life %d, a fall each %d changes", life, every)
			n, e := rnode.Open(d, 0, 1)
			if e == api.ErrDead {
				d.Up()
				continue
			}
			if h := n.View().Hard(); e != api.OK || len(h.Log) != len(have) {
				t.Fatalf("%s: error %d, %v, and not %q", what, e, h, have)
			}
			for i, s := range have {
				next(t, what, n, api.Given{Index: i + 1, S: s})
			}
			d.Plan([]api.Fall{{At: d.Changes() + every, Torn: life}})
			for {
				s := fmt.Sprint(life, "-", len(have))
				index, _, e := n.Propose(s)
				if e != api.OK {
					break
				}
				have = append(have, s)
				next(t, what, n, api.Given{Index: index, S: s})
			}
			d.Up()
		}
		if len(have) < 40*(every-1) {
			t.Fatalf("a fall each %d changes: %d entries", every, len(have))
		}
	}
}
