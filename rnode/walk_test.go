package rnode_test

import (
	"fmt"
	"math/rand"
	"slices"
	"testing"

	"cohort/api"
	"cohort/disk"
	"cohort/rnode"
	"cohort/view"
)

// walker goes a long way with one master, beside one without a disk, and what must stand on the disk.
type walker struct {
	t       *testing.T
	r       *rand.Rand
	me, all int
	d       *disk.Disk
	n       *rnode.Node
	v       *view.Node
	p       *paper
	at      int
	trail   []string
	falls   int
	resets  int
	handed  int
	snaps   int
}

func newWalker(t *testing.T, seed int64) *walker {
	w := &walker{t: t, r: rand.New(rand.NewSource(seed)), d: disk.New(), p: &paper{}}
	w.all = 1 + w.r.Intn(4)
	w.me = w.r.Intn(w.all)
	w.open()
	return w
}

func (w *walker) what() string {
	return fmt.Sprintf("%d of %d, behind %q", w.me, w.all, w.trail[max(len(w.trail)-6, 0):])
}

// open lets another life begin from what the paper says.
func (w *walker) open() {
	w.t.Helper()
	w.n = open(w.t, w.what(), w.d, w.me, w.all)
	w.v = shadow(w.t, w.me, w.all, w.p.says)
	w.at = w.p.says.BaseIndex
}

// falls behind lets the power come back, once it has failed in a call.
func (w *walker) again() {
	w.t.Helper()
	isDead(w.t, w.what(), w.n)
	w.d.Up()
	w.p.stands(w.t, w.what(), w.d)
	w.open()
	w.falls++
}

// kept looks at what a call told, and at the disk; got is nil if it told an error.
func (w *walker) kept(got []api.ViewMsg, e api.Errno, should []api.ViewMsg) {
	w.t.Helper()
	if e == api.ErrDead && w.d.Dead() && got == nil {
		w.again()
		return
	}
	told(w.t, w.what(), got, e, should)
	if w.p.keep(w.v.Hard()); len(w.p.records) == 1 {
		w.resets++
	}
	w.p.stands(w.t, w.what(), w.d)
}

// entries is some entries, of which many are those that it has.
func (w *walker) entries(n int) []api.LogEntry {
	l := slices.Clone(w.v.Hard().Log)
	l = l[:min(len(l), n)]
	for len(l) < n {
		l = append(l, api.LogEntry{View: w.r.Intn(4), S: fmt.Sprint(w.r.Intn(5))})
	}
	if w.r.Intn(3) == 0 && n > 0 {
		l[w.r.Intn(n)].S = "other"
	}
	return l
}

// message is one that may come, or may not.
func (w *walker) message() api.ViewMsg {
	r, h := w.r, w.v.Hard()
	of := max(h.View+r.Intn(4)-1, 0)
	from := r.Intn(w.all)
	m := api.ViewMsg{Kind: 1 + r.Intn(6), From: from, To: w.me, View: of}
	if m.Kind == api.ViewBegin || m.Kind == api.ViewPrepare {
		if m.From = of % w.all; m.From == w.me {
			m.View, m.From = of+1, (of+1)%w.all
		}
	}
	last := h.BaseIndex + len(h.Log)
	switch m.Kind {
	case api.ViewPrepare:
		m.View = h.View
		m.From = m.View % w.all
		m.Index = max(last-r.Intn(4), 0)
		for range last - m.Index + r.Intn(3) {
			m.Entries = append(m.Entries, api.LogEntry{View: m.View, S: fmt.Sprint(r.Intn(5))})
		}
		m.Commit = w.v.Commit() + r.Intn(3)
	case api.ViewOk:
		m.View, m.Index = h.View, max(last-r.Intn(3), 0)
	case api.ViewGive, api.ViewBegin:
		m.Normal = r.Intn(m.View + 1)
		m.BaseIndex, m.Entries = h.BaseIndex, w.entries(max(len(h.Log)+r.Intn(4)-2, 0))
		m.BaseView, m.Base = h.BaseView, h.Base
		if r.Intn(4) == 0 {
			m.BaseIndex, m.BaseView, m.Base = w.v.Commit()+r.Intn(4), r.Intn(3), fmt.Sprint("s", r.Intn(9))
			m.Entries = m.Entries[:min(len(m.Entries), r.Intn(5))]
		}
		m.Index = m.BaseIndex + len(m.Entries)
		m.Commit = min(w.v.Commit()+r.Intn(3), m.Index)
	}
	if r.Intn(50) == 0 {
		m.To, m.Kind = r.Intn(5), r.Intn(9)
	}
	return m
}

// next is that Next hands out what the document says.
func (w *walker) next() {
	w.t.Helper()
	h := w.v.Hard()
	should, ok := api.Given{}, true
	switch {
	case w.at < h.BaseIndex:
		should = api.Given{Index: h.BaseIndex, View: h.BaseView, S: h.Base, Snap: true}
		w.snaps++
	case w.at < w.v.Commit():
		e := h.Log[w.at-h.BaseIndex]
		should = api.Given{Index: w.at + 1, View: e.View, S: e.S}
		w.handed++
	default:
		ok = false
	}
	if ok {
		w.at = should.Index
	}
	if g, is := w.n.Next(); is != ok || g != should {
		w.t.Fatalf("%s: Next tells %v, %t, and not %v, %t", w.what(), g, is, should, ok)
	}
}

// goes lets something happen.
func (w *walker) goes() {
	w.t.Helper()
	switch x := w.r.Intn(100); {
	case x < 30:
		w.trail = append(w.trail, "Tick")
		l, e := w.n.Tick()
		w.kept(l, e, w.v.Tick())
	case x < 60:
		m := w.message()
		w.trail = append(w.trail, fmt.Sprint("Step ", m))
		l, e := w.n.Step(m)
		w.kept(l, e, w.v.Step(m))
	case x < 75:
		w.trail = append(w.trail, "Propose")
		s := fmt.Sprint("p", len(w.trail))
		index, l, e := w.n.Propose(s)
		vIndex, vl, _ := w.v.Propose(s)
		if e != api.OK {
			vIndex = 0
		}
		if index != vIndex {
			w.t.Fatalf("%s: Propose tells %d, and not %d", w.what(), index, vIndex)
		}
		w.kept(l, e, vl)
	case x < 90:
		w.trail = append(w.trail, "Next")
		w.next()
	case x < 94:
		w.trail = append(w.trail, "Compact")
		s := fmt.Sprint("c", len(w.trail))
		ok, e := w.n.Compact(s)
		is := w.v.Compact(w.at, s)
		if ok != (is && e == api.OK) {
			w.t.Fatalf("%s: Compact tells %t, error %d, and not %t", w.what(), ok, e, is)
		}
		if is {
			w.kept(nil, e, nil)
		}
	case x < 97:
		at := w.r.Intn(5)
		w.trail = append(w.trail, fmt.Sprint("Plan ", at))
		w.d.Plan([]api.Fall{{At: w.d.Changes() + at, Keep: w.r.Intn(3), Torn: w.r.Intn(9)}})
	default:
		w.trail = append(w.trail, "Crash")
		w.d.Crash(w.r.Intn(3), w.r.Intn(9))
		w.again()
	}
	has(w.t, w.what(), w.n, w.v, w.at)
}

// Promises 14.1, 14.2: long walks: each call as a master without a disk has it, what stands on the disk, what is handed out, and the power failing at any change.
func TestLongWalks(t *testing.T) {
	falls, resets, handed, snaps := 0, 0, 0, 0
	for seed := range int64(400) {
		w := newWalker(t, seed)
		for range 400 {
			w.goes()
		}
		falls, resets, handed, snaps = falls+w.falls, resets+w.resets, handed+w.handed, snaps+w.snaps
	}
	if falls < 3000 || resets < 500 || handed < 3000 || snaps < 300 {
		t.Errorf("%d falls, %d times laid anew, %d entries and %d snapshots handed out", falls, resets, handed, snaps)
	}
}
