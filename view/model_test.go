package view_test

import (
	"fmt"
	"math/rand"
	"testing"

	"cohort/api"
	"cohort/view"
)

// model is a master as the words of the chapter have it: the log is entries by their indices, and all that is volatile is worked out anew where it can be.
type model struct {
	me, all      int
	view, normal int
	base         int
	baseView     int
	snap         string
	last         int
	entry        map[int]api.LogEntry
	commit       int
	had          int
	waited       int
	gave         bool
	want         map[int]bool
	given        map[int]api.ViewMsg
	far          map[int]int
	out          []api.ViewMsg
}

func newModel(me, all int, h api.Hard) *model {
	x := &model{me: me, all: all, view: h.View, normal: h.Normal, base: h.BaseIndex, baseView: h.BaseView, snap: h.Base, last: h.BaseIndex, entry: map[int]api.LogEntry{}}
	for _, e := range h.Log {
		x.last++
		x.entry[x.last] = e
	}
	x.commit, x.had = x.base, x.last
	if all == 1 {
		x.commit = x.last
	}
	x.clear()
	return x
}

func (x *model) clear() {
	x.gave, x.want, x.given, x.far, x.waited = false, map[int]bool{x.me: true}, map[int]api.ViewMsg{}, map[int]int{}, 0
}

func (x *model) half(n int) bool { return n > x.all/2 }
func (x *model) begun() bool     { return x.view == x.normal }
func (x *model) leads() bool     { return x.begun() && x.view%x.all == x.me }

func (x *model) log(from, to int) []api.LogEntry {
	var l []api.LogEntry
	for i := from + 1; i <= to && i <= x.last; i++ {
		l = append(l, x.entry[i])
	}
	return l
}

func (x *model) hard() api.Hard {
	return api.Hard{View: x.view, Normal: x.normal, BaseIndex: x.base, BaseView: x.baseView, Base: x.snap, Log: x.log(x.base, x.last)}
}

func (x *model) say(m api.ViewMsg) {
	m.From = x.me
	x.out = append(x.out, m)
}

func (x *model) sayAll(kind, to int) {
	x.say(whole(kind, x.me, to, x.commit, x.hard()))
}

func (x *model) each(f func(to int)) {
	for i := range x.all {
		if i != x.me {
			f(i)
		}
	}
}

func (x *model) prepare(to int) {
	at, ok := x.far[to]
	if !ok || at < x.base {
		at = x.last
	}
	x.say(prepare(x.me, to, x.view, at, x.commit, x.log(at, at+16)...))
}

func (x *model) tick() {
	x.waited++
	if x.leads() {
		if x.waited == 3 {
			x.waited = 0
			x.each(x.prepare)
		}
		return
	}
	if x.waited >= 10+(7*x.me+3*x.view)%10 && x.view < most {
		x.over(x.view + 1)
	}
}

func (x *model) over(of int) {
	x.view = of
	x.clear()
	x.each(func(to int) { x.say(want(x.me, to, of)) })
	x.give()
}

func (x *model) give() {
	if x.begun() || x.gave || !x.half(len(x.want)) {
		return
	}
	x.gave = true
	if x.view%x.all != x.me {
		x.sayAll(api.ViewGive, x.view%x.all)
		return
	}
	x.begin()
}

func (x *model) begin() {
	if x.begun() || x.view%x.all != x.me || !x.gave || !x.half(1+len(x.given)) {
		return
	}
	greatest, normal, last, who := x.commit, x.normal, x.last, -1
	for i := range x.all {
		if m, ok := x.given[i]; ok {
			greatest = max(greatest, m.Commit)
			if m.Normal > normal || m.Normal == normal && m.Index > last {
				normal, last, who = m.Normal, m.Index, i
			}
		}
	}
	if who >= 0 {
		x.take(x.given[who])
	}
	x.normal = x.view
	x.commit = max(x.commit, min(greatest, x.last))
	x.had = x.last
	x.clear()
	x.each(func(to int) { x.sayAll(api.ViewBegin, to) })
}

func (x *model) take(m api.ViewMsg) bool {
	if m.Index != m.BaseIndex+len(m.Entries) || m.Index < x.commit {
		return false
	}
	for i, e := range m.Entries {
		at := m.BaseIndex + 1 + i
		if own, ok := x.entry[at]; ok && at <= x.commit && own != e {
			return false
		}
	}
	if m.BaseIndex > x.base {
		x.base, x.baseView, x.snap = m.BaseIndex, m.BaseView, m.Base
		x.commit = max(x.commit, x.base)
	}
	x.last, x.entry = m.Index, map[int]api.LogEntry{}
	for i, e := range m.Entries {
		if at := m.BaseIndex + 1 + i; at > x.base {
			x.entry[at] = e
		}
	}
	return true
}

func (x *model) follow(m api.ViewMsg) {
	x.waited = 0
	x.commit = max(x.commit, min(m.Commit, x.last))
	x.say(okay(x.me, m.From, x.view, x.last))
}

func (x *model) step(m api.ViewMsg) {
	if !view.Check(m, x.all) || m.To != x.me || m.View < x.view {
		return
	}
	fromLeader := m.View%x.all == m.From
	if m.View > x.view && (m.Kind == api.ViewWant || m.Kind == api.ViewGive) {
		x.over(m.View)
	}
	same := m.View == x.view
	switch {
	case m.Kind == api.ViewWant && !x.begun():
		x.want[m.From] = true
		x.give()
	case m.Kind == api.ViewGive && !x.begun() && x.view%x.all == x.me:
		if m.Index == m.BaseIndex+len(m.Entries) {
			x.given[m.From] = m
		}
		x.want[m.From] = true
		x.give()
		x.begin()
	case m.Kind == api.ViewWant || m.Kind == api.ViewGive || m.Kind == api.ViewAsk:
		if x.leads() && same {
			x.sayAll(api.ViewBegin, m.From)
		}
	case m.Kind == api.ViewBegin && fromLeader && same && x.begun():
		if m.Index > x.last {
			x.take(m)
		}
		x.follow(m)
	case m.Kind == api.ViewBegin && fromLeader:
		if x.take(m) {
			x.view, x.normal = m.View, m.View
			x.clear()
			x.follow(m)
		}
	case m.Kind == api.ViewPrepare && fromLeader:
		x.takePrepare(m, same)
	case m.Kind == api.ViewOk && x.leads() && same:
		x.takeOk(m)
	}
}

func (x *model) takePrepare(m api.ViewMsg, same bool) {
	if !same || !x.begun() || m.Index > x.last {
		x.say(ask(x.me, m.From, m.View))
		return
	}
	if end := m.Index + len(m.Entries); end > x.last && end-x.base <= 1000 {
		for i := x.last + 1; i <= end; i++ {
			x.entry[i] = m.Entries[i-m.Index-1]
		}
		x.last = end
	}
	x.follow(m)
}

func (x *model) takeOk(m api.ViewMsg) {
	x.far[m.From] = max(x.far[m.From], min(m.Index, x.last))
	for at := x.last; at > x.commit; at-- {
		have := 1
		for _, far := range x.far {
			if far >= at {
				have++
			}
		}
		if x.half(have) {
			x.commit = at
			break
		}
	}
	if x.far[m.From] < x.last {
		x.prepare(m.From)
	}
}

func (x *model) propose(s string) (int, bool) {
	if !x.leads() || x.last-x.base >= 1000 {
		return 0, false
	}
	x.last++
	x.entry[x.last] = api.LogEntry{View: x.view, S: s}
	if x.all == 1 {
		x.commit = x.last
	}
	x.waited = 0
	x.each(x.prepare)
	return x.last, true
}

func (x *model) compact(index int, s string) bool {
	if index <= x.base || index > x.commit {
		return false
	}
	x.baseView, x.snap = x.entry[index].View, s
	for ; x.base < index; x.base++ {
		delete(x.entry, x.base+1)
	}
	return true
}

// like is that a master is as the model has it, and told what that told.
func like(t *testing.T, what string, n *view.Node, x *model, out []api.ViewMsg) {
	t.Helper()
	told(t, what, out, x.out...)
	x.out = nil
	has(t, what, n, x.hard(), x.commit)
	role, leader := api.Changing, -1
	if x.begun() {
		role, leader = api.Follower, x.view%x.all
	}
	if x.leads() {
		role = api.Leader
	}
	is(t, what, n, role, leader, x.leads() && x.commit >= x.had)
}

// near is a number that is not far from another one, mostly.
func near(r *rand.Rand, x, most int) int {
	if r.Intn(40) == 0 {
		return r.Intn(most + 1)
	}
	return max(0, min(most, x+r.Intn(4)-r.Intn(4)))
}

// madeUp is a message that somebody may have told a master as it is, or nobody.
func madeUp(r *rand.Rand, x *model) api.ViewMsg {
	m := bare(1+r.Intn(6), r.Intn(x.all), x.me, x.view)
	if r.Intn(3) == 0 {
		m.View = min(most, max(0, x.view+r.Intn(2*x.all)-2))
	}
	if r.Intn(50) == 0 {
		m.To = r.Intn(x.all)
	}
	if (m.Kind == api.ViewPrepare || m.Kind == api.ViewBegin) && r.Intn(6) > 0 {
		m.From = m.View % x.all
	}
	m.Normal = min(m.View, near(r, x.normal, most))
	m.Commit = near(r, x.commit, most)
	m.Index = near(r, x.last, most)
	if m.Kind == api.ViewGive || m.Kind == api.ViewBegin {
		m.BaseIndex, m.BaseView, m.Base = near(r, x.base, x.last+5), r.Intn(5), fmt.Sprint("snap", r.Intn(5))
		if r.Intn(8) > 0 {
			m.Index = near(r, max(x.last, m.BaseIndex), x.last+9)
			m.Entries = others(r, x, m.BaseIndex, m.Index)
			m.Index = m.BaseIndex + len(m.Entries)
		}
	}
	if m.Kind == api.ViewPrepare {
		m.Entries = others(r, x, m.Index, m.Index+r.Intn(5))
	}
	return m
}

// others is entries as a master has them, or not quite.
func others(r *rand.Rand, x *model, from, to int) []api.LogEntry {
	var l []api.LogEntry
	turn := from + r.Intn(60)
	for i := from + 1; i <= to; i++ {
		e, ok := x.entry[i]
		if !ok || i >= turn {
			e = api.LogEntry{View: r.Intn(3), S: fmt.Sprint(i)}
		}
		l = append(l, e)
	}
	return l
}

// Promises 13.1, 13.2: whatever comes, of those that keep to the words or of others, a master does as the words say.
func TestAsTheWordsSay(t *testing.T) {
	for seed := range 6000 {
		r := rand.New(rand.NewSource(int64(seed)))
		all := 1 + r.Intn(7)
		me := r.Intn(all)
		normal := r.Intn(3)
		h := api.Hard{View: normal + r.Intn(2)*r.Intn(5), Normal: normal, BaseIndex: r.Intn(2) * r.Intn(6), BaseView: r.Intn(3), Base: "first"}
		h.Log = many(h.BaseIndex+1, r.Intn(2)*r.Intn(30))
		if r.Intn(60) == 0 {
			h.Log = many(h.BaseIndex+1, 990+r.Intn(11))
		}
		n, x := stand(t, me, all, h), newModel(me, all, h)
		walk(t, fmt.Sprintf("seed %d, %d of %d", seed, me, all), r, n, x)
	}
}

// walk lets a master and the model go through the same.
func walk(t *testing.T, what string, r *rand.Rand, n *view.Node, x *model) {
	t.Helper()
	like(t, what, n, x, nil)
	for i := range 60 {
		what := fmt.Sprintf("%s, step %d", what, i)
		var out []api.ViewMsg
		switch c := r.Intn(20); {
		case c < 2:
			for range r.Intn(12) {
				x.tick()
				like(t, what+", ticks", n, x, n.Tick())
			}
		case c < 3:
			s := fmt.Sprint("put ", i)
			at, ok := x.propose(s)
			gotAt, l, gotOk := n.Propose(s)
			if at != gotAt || ok != gotOk {
				t.Fatalf("%s: Propose tells %d, %t, and not %d, %t", what, gotAt, gotOk, at, ok)
			}
			out = l
		case c < 4:
			at := near(r, x.commit, x.last+2)
			if ok := x.compact(at, what); ok != n.Compact(at, what) {
				t.Fatalf("%s: Compact(%d) tells %t", what, at, !ok)
			}
		default:
			m := madeUp(r, x)
			what = fmt.Sprintf("%s, %s", what, show(msgs(m)))
			x.step(m)
			out = n.Step(m)
		}
		like(t, what, n, x, out)
	}
}
