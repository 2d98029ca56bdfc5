package rnode_test

import (
	"fmt"
	"slices"
	"testing"

	"cohort/api"
	"cohort/disk"
	"cohort/rnode"
)

// call is a call by which something must be kept, or nothing.
type call struct {
	name    string
	me, all int
	kept    api.Hard
	do      func(n *rnode.Node) ([]api.ViewMsg, int, api.Errno)
	record  string // that comes
	snap    string // that comes with the log laid anew
	says    api.Hard
}

func tick(times int) func(n *rnode.Node) ([]api.ViewMsg, int, api.Errno) {
	return func(n *rnode.Node) ([]api.ViewMsg, int, api.Errno) {
		for range times - 1 {
			if l, e := n.Tick(); e != api.OK || len(l) > 0 {
				return l, -1, e
			}
		}
		l, e := n.Tick()
		return l, 0, e
	}
}

func step(m api.ViewMsg) func(n *rnode.Node) ([]api.ViewMsg, int, api.Errno) {
	return func(n *rnode.Node) ([]api.ViewMsg, int, api.Errno) {
		l, e := n.Step(m)
		return l, 0, e
	}
}

func propose(s string) func(n *rnode.Node) ([]api.ViewMsg, int, api.Errno) {
	return func(n *rnode.Node) ([]api.ViewMsg, int, api.Errno) {
		index, l, e := n.Propose(s)
		return l, index, e
	}
}

// compact hands out all that is committed, and lays a snapshot of it.
func compact(s string) func(n *rnode.Node) ([]api.ViewMsg, int, api.Errno) {
	return func(n *rnode.Node) ([]api.ViewMsg, int, api.Errno) {
		for _, ok := n.Next(); ok; _, ok = n.Next() {
		}
		ok, e := n.Compact(s)
		if ok != (e == api.OK) {
			return nil, -1, e
		}
		return nil, 0, e
	}
}

// callsThatKeep is calls of each sort by which something is another one, by hand.
func callsThatKeep() []call {
	full := many(1, 1000)
	return []call{
		{"Tick that goes over", 1, 3, hard(0, 0, "0a"), tick(17), recBytes(1, 0, 1), "", hard(1, 0, "0a")},
		{"Tick of one alone that goes over, and begins", 0, 1, hard(4, 3, "0a"), tick(12), recBytes(5, 5, 1), "", hard(5, 5, "0a")},
		{"Propose of the first", 0, 3, hard(0, 0), propose("x"), recBytes(0, 0, 0, log("0x")...), "", hard(0, 0, "0x")},
		{"Propose of one more", 1, 3, hard(4, 4, "0a", "1b"), propose("x"), recBytes(4, 4, 2, log("4x")...), "", hard(4, 4, "0a", "1b", "4x")},
		{"Propose of an empty text", 0, 1, hard(2, 2, "0a"), propose(""), recBytes(2, 2, 1, log("2")...), "", hard(2, 2, "0a", "2")},
		{"Propose behind a snapshot", 0, 1, based(2, 2, 5, 1, "s", "1a"), propose("x"), recBytes(2, 2, 6, log("2x")...), "", based(2, 2, 5, 1, "s", "1a", "2x")},
		{"Propose of the last that may be", 0, 1, api.Hard{Log: full[:999]}, propose("1000"), recBytes(0, 0, 999, full[999]), "", api.Hard{Log: full}},
		{"Propose behind the greatest snapshot", 0, 1, based(2, 2, most, 1, "s", "1a"), propose("x"), recBytes(2, 2, most+1, log("2x")...), "", based(2, 2, most, 1, "s", "1a", "2x")},
		{"ViewWant", 0, 5, hard(3, 3, "0a"), step(bare(api.ViewWant, 1, 0, 9)), recBytes(9, 3, 1), "", hard(9, 3, "0a")},
		{"ViewPrepare", 2, 3, hard(0, 0, "0a"), step(prepare(0, 2, 0, 0, 0, log("0a", "0b", "0c")...)), recBytes(0, 0, 1, log("0b", "0c")...), "", hard(0, 0, "0a", "0b", "0c")},
		{"ViewBegin with the same log", 2, 3, hard(0, 0, "0a"), step(whole(api.ViewBegin, 1, 2, 0, hard(4, 4, "0a"))), recBytes(4, 4, 1), "", hard(4, 4, "0a")},
		{"ViewBegin with another log", 2, 3, hard(0, 0, "0a", "0b", "0c"), step(whole(api.ViewBegin, 1, 2, 0, hard(1, 1, "0a", "1x", "0c", "1z"))), recBytes(1, 1, 1, log("1x", "0c", "1z")...), "", hard(1, 1, "0a", "1x", "0c", "1z")},
		{"ViewBegin with an entry of another view alone", 2, 3, hard(1, 0, "0a", "0b"), step(whole(api.ViewBegin, 1, 2, 0, hard(1, 1, "1a", "0b"))), recBytes(1, 1, 0, log("1a", "0b")...), "", hard(1, 1, "1a", "0b")},
		{"ViewBegin with a shorter log", 2, 3, hard(0, 0, "0a", "0b", "0c"), step(whole(api.ViewBegin, 1, 2, 0, hard(1, 1, "0a"))), recBytes(1, 1, 1), "", hard(1, 1, "0a")},
		{"ViewBegin with nothing", 2, 3, hard(0, 0, "0a", "0b"), step(whole(api.ViewBegin, 1, 2, 0, hard(1, 1))), recBytes(1, 1, 0), "", hard(1, 1)},
		{"ViewBegin of a snapshot below", 2, 3, based(0, 0, 3, 0, "s", "0d"), step(whole(api.ViewBegin, 1, 2, 0, based(1, 1, 2, 0, "t", "0c", "1x"))), recBytes(1, 1, 3, log("1x")...), "", based(1, 1, 3, 0, "s", "1x")},
		{"ViewBegin of a snapshot", 2, 3, hard(0, 0, "0a"), step(whole(api.ViewBegin, 1, 2, 4, based(1, 1, 3, 1, "snap", "1x"))), recBytes(1, 1, 3, log("1x")...), snapBytes(3, 1, "snap"), based(1, 1, 3, 1, "snap", "1x")},
		{"ViewBegin of a snapshot alone", 2, 3, based(1, 1, 2, 0, "s", "0a"), step(whole(api.ViewBegin, 1, 2, 4, based(1, 1, 9, 1, ""))), recBytes(1, 1, 9), snapBytes(9, 1, ""), based(1, 1, 9, 1, "")},
		{"ViewGive with which it begins", 1, 3, hard(1, 0, "0a"), step(whole(api.ViewGive, 0, 1, 0, hard(1, 0, "0a", "0b"))), recBytes(1, 1, 1, log("0b")...), "", hard(1, 1, "0a", "0b")},
		{"Compact of all", 0, 1, hard(2, 2, "0a", "1b"), compact("snap"), recBytes(2, 2, 2), snapBytes(2, 1, "snap"), based(2, 2, 2, 1, "snap")},
		{"Compact behind a snapshot", 0, 1, based(2, 1, 5, 1, "s", "1a"), compact(""), recBytes(2, 1, 6), snapBytes(6, 1, ""), based(2, 1, 6, 1, "")},
	}
}

// after is what must stand on the disk behind a call.
func (c call) after(p *paper) *paper {
	if c.snap != "" {
		return &paper{snap: c.snap, records: []string{c.record}, says: c.says}
	}
	return &paper{snap: p.snap, records: append(append([]string(nil), p.records...), c.record), says: c.says}
}

// Promise 14.1: what stands on the disk behind each sort of call: one record from behind the entries that are the same, or the log laid anew; and it is there ahead of telling, so that another life has it.
func TestKeep(t *testing.T) {
	for _, c := range callsThatKeep() {
		d, p := keeps(t, c.kept)
		n := open(t, c.name, d, c.me, c.all)
		if _, index, e := c.do(n); e != api.OK || index < 0 {
			t.Fatalf("%s: %d, error %d", c.name, index, e)
		}
		if !sameHard(n.View().Hard(), c.says) {
			t.Fatalf("%s: it has %v, and not %v", c.name, n.View().Hard(), c.says)
		}
		c.after(p).stands(t, c.name, d)
		d.Crash(0, 0)
		d.Up()
		n = open(t, c.name+", again", d, c.me, c.all)
		has(t, c.name+", again", n, shadow(t, c.me, c.all, c.says), c.says.BaseIndex)
	}
}

// Promise 14.1: when the power fails while something is being kept, at any change of the disk: ErrDead and nothing; another life has what was there ahead.
func TestPowerFailsInKeep(t *testing.T) {
	for _, c := range callsThatKeep() {
		changes := 1
		if c.snap != "" {
			changes = 2
		}
		for at := range changes + 1 {
			for _, fall := range []api.Fall{{}, {Keep: 9, Torn: 99}, {Torn: 3}} {
				what := fmt.Sprintf("%s, a fall ahead of change %d", c.name, at)
				d, p := keeps(t, c.kept)
				n := open(t, what, d, c.me, c.all)
				fall.At = d.Changes() + at
				d.Plan([]api.Fall{fall})
				l, index, e := c.do(n)
				if at == changes {
					if e != api.OK || d.Changes() != fall.At {
						t.Fatalf("%s: error %d, %d changes of the disk", what, e, d.Changes())
					}
					c.after(p).stands(t, what, d)
					continue
				}
				if e != api.ErrDead || l != nil || index != 0 {
					t.Fatalf("%s: error %d, index %d, %v", what, e, index, l)
				}
				if fall.Torn > 3 { // the disk is up again ahead of any other call
					d.Up()
				}
				isDead(t, what, n)
				if s, at := n.Base(); s != c.kept.Base || at != c.kept.BaseIndex {
					t.Fatalf("%s: it stands on %q, %d, which the disk has not", what, s, at)
				}
				d.Up()
				isDead(t, what+", the disk is up again", n)
				p.stands(t, what, d)
				has(t, what, open(t, what, d, c.me, c.all), shadow(t, c.me, c.all, c.kept), c.kept.BaseIndex)
			}
		}
	}
}

// Promises 14.1, 14.2: when the power fails amid the changes of a call, with any number of their bytes, another life has what was there ahead, or all of it.
func TestPowerFailsAmid(t *testing.T) {
	for _, c := range callsThatKeep() {
		if len(c.kept.Log) > 10 {
			continue
		}
		d, p := keeps(t, c.kept)
		done := d.Clone()
		if _, _, e := c.do(open(t, c.name, done, c.me, c.all)); e != api.OK {
			t.Fatal(c.name)
		}
		was, _ := d.Read("log")
		is, _ := done.Read("log")
		for torn := range len(is) + 2 {
			for keep := range 3 {
				what := fmt.Sprintf("%s, Crash(%d, %d)", c.name, keep, torn)
				x := d.Clone()
				if c.snap == "" {
					x.Append("log", is[len(was):])
				} else {
					x.Write("fresh", is)
					x.Sync()
					x.Move("fresh", "log")
				}
				x.Crash(keep, torn)
				x.Up()
				n := open(t, what, x, c.me, c.all)
				h := n.View().Hard()
				if !sameHard(h, p.says) && !sameHard(h, c.says) || keep > 0 && !sameHard(h, c.says) || keep == 0 && torn == 0 && !sameHard(h, p.says) {
					t.Fatalf("%s: it has %v", what, h)
				}
			}
		}
	}
}

// Promise 14.1: no record where nothing is another one.
func TestKeepNothing(t *testing.T) {
	full := many(1, 1000)
	for _, c := range []call{
		{name: "Tick of a leader that speaks", all: 3, kept: hard(3, 3, "0a"), do: tick(3)},
		{name: "Tick of one that waits", me: 1, all: 3, kept: hard(3, 3, "0a"), do: tick(1)},
		{name: "Tick in the last view", me: 1, all: 3, kept: hard(most, 2, "0a"), do: tick(50)},
		{name: "Propose of one that does not lead", me: 1, all: 3, kept: hard(3, 3, "0a"), do: propose("x")},
		{name: "Propose of one whose view has not begun", all: 1, kept: hard(3, 2, "0a"), do: propose("x")},
		{name: "Propose of one that is full", all: 1, kept: api.Hard{Log: full}, do: propose("x")},
		{name: "Propose of one that is full behind a snapshot", all: 3, kept: api.Hard{BaseIndex: 7, Base: "s", Log: full}, do: propose("x")},
		{name: "ViewPrepare with nothing new", me: 1, all: 3, kept: hard(3, 3, "0a", "0b"), do: step(prepare(0, 1, 3, 0, 2, log("0a", "0b")...))},
		{name: "ViewPrepare to one that asks", me: 1, all: 3, kept: hard(3, 3, "0a", "0b"), do: step(prepare(0, 1, 3, 5, 2))},
		{name: "ViewOk that commits", all: 3, kept: hard(3, 3, "0a", "0b"), do: step(okay(1, 0, 3, 2))},
		{name: "ViewWant of the same view", all: 3, kept: hard(4, 3, "0a"), do: step(bare(api.ViewWant, 1, 0, 4))},
		{name: "ViewAsk", all: 3, kept: hard(3, 3, "0a"), do: step(bare(api.ViewAsk, 1, 0, 3))},
		{name: "a message of a lesser view", all: 3, kept: hard(3, 3, "0a"), do: step(bare(api.ViewWant, 1, 0, 2))},
		{name: "a message that may not be", all: 3, kept: hard(3, 3, "0a"), do: step(bare(7, 1, 0, 9))},
		{name: "a message to another one", all: 3, kept: hard(3, 3, "0a"), do: step(bare(api.ViewWant, 1, 2, 9))},
		{name: "ViewBegin that can't be taken", me: 2, all: 3, kept: based(3, 3, 5, 0, "s"), do: step(whole(api.ViewBegin, 1, 2, 0, hard(4, 4, "0a")))},
	} {
		d, p := keeps(t, c.kept)
		n := open(t, c.name, d, c.me, c.all)
		changes := d.Changes()
		d.Plan([]api.Fall{{At: changes}})
		if _, index, e := c.do(n); e != api.OK || index != 0 || d.Changes() != changes {
			t.Fatalf("%s: %d, error %d, %d changes of the disk", c.name, index, e, d.Changes()-changes)
		}
		if !sameHard(n.View().Hard(), c.kept) {
			t.Fatalf("%s: it has %v", c.name, n.View().Hard())
		}
		p.stands(t, c.name, d)
	}
}

// Promise 14.1: the log is laid anew when more than 40 records stand there, and not ahead of that.
func TestManyRecords(t *testing.T) {
	for _, base := range []int{0, 7} {
		d := disk.New()
		if base > 0 {
			d = laid(t, snapBytes(base, 0, "s"))
		}
		n := open(t, "many", d, 0, 1)
		for i := 1; i <= 130; i++ {
			index, l, e := n.Propose(fmt.Sprint("e", i))
			if index != base+i || l != nil || e != api.OK {
				t.Fatalf("Propose %d: %d, %v, error %d", i, index, l, e)
			}
			// Of 41 records, and one that comes, one is made: 1 to 41 stand there.
			should := (i-1)%41 + 1
			snap, records := lies(t, "many", d)
			if len(records) != should {
				t.Fatalf("behind %d entries: %d records, and not %d", i, len(records), should)
			}
			if base > 0 && snap != snapBytes(base, 0, "s") || base == 0 && snap != "" {
				t.Fatalf("behind %d entries: the snapshot %q", i, snap)
			}
			h := api.Hard{}
			for j := 1; j <= i; j++ {
				h.Log = append(h.Log, api.LogEntry{S: fmt.Sprint("e", j)})
			}
			if should == 1 && records[0] != recBytes(0, 0, base, h.Log...) {
				t.Fatalf("behind %d entries: the record %q", i, records[0])
			}
			if should > 1 && records[should-1] != recBytes(0, 0, base+i-1, h.Log[i-1]) {
				t.Fatalf("behind %d entries: the record %q", i, records[should-1])
			}
			if i%13 == 0 {
				n = open(t, "many, again", d, 0, 1)
				if got := n.View().Hard(); !slices.Equal(got.Log, h.Log) {
					t.Fatalf("behind %d entries: it has %v", i, got)
				}
			}
		}
	}
}

// recordsOf is a disk on which so many records stand, the last of which says the same as those ahead.
func recordsOf(t *testing.T, many int) (*disk.Disk, *paper) {
	t.Helper()
	p := &paper{says: hard(3, 3, "0a", "1b")}
	for len(p.records) < many {
		p.records = append(p.records, recBytes(3, 3, 0, p.says.Log...))
	}
	return laid(t, "", p.records...), p
}

// Promise 14.1: where more than 40 records stand, they are laid anew when something is to be kept, whether or not that is another one.
func TestManyRecordsAnyCall(t *testing.T) {
	calls := map[string]func(n *rnode.Node) ([]api.ViewMsg, int, api.Errno){
		"Tick":                      tick(1),
		"Step":                      step(okay(1, 0, 3, 2)),
		"Step of what may not be":   step(api.ViewMsg{}),
		"Propose":                   propose("x"),
		"Step to a greater view":    step(bare(api.ViewWant, 1, 0, 4)),
		"Step to a far later view":  step(bare(api.ViewWant, 1, 0, 400)),
		"Step that takes a log":     step(whole(api.ViewBegin, 1, 0, 0, hard(4, 4, "0a", "4y"))),
		"Step that takes a log low": step(whole(api.ViewBegin, 1, 0, 0, hard(4, 4))),
	}
	for name, do := range calls {
		for _, many := range []int{1, 39, 40, 41, 42, 100} {
			what := fmt.Sprintf("%s, %d records", name, many)
			d, p := recordsOf(t, many)
			n := open(t, what, d, 0, 3)
			if _, _, e := do(n); e != api.OK {
				t.Fatalf("%s: error %d", what, e)
			}
			p.keep(n.View().Hard())
			if many > 40 && len(p.records) != 1 || many <= 40 && len(p.records) < many {
				t.Fatalf("%s: %d records should stand there", what, len(p.records))
			}
			p.stands(t, what, d)
			if _, _, e := do(n); e != api.OK {
				t.Fatalf("%s: error %d", what, e)
			}
			p.keep(n.View().Hard())
			p.stands(t, what+", again", d)
		}
	}
}

// Promise 14.1: when the power fails while many records are laid anew: ErrDead and nothing, and the records are there.
func TestManyRecordsPowerFails(t *testing.T) {
	for name, do := range map[string]func(n *rnode.Node) ([]api.ViewMsg, int, api.Errno){"Tick": tick(1), "Step": step(bare(api.ViewAsk, 1, 0, 3)), "Propose": propose("x")} {
		for at := range 2 {
			what := fmt.Sprintf("%s, a fall ahead of change %d", name, at)
			d, p := recordsOf(t, 41)
			n := open(t, what, d, 0, 3)
			d.Plan([]api.Fall{{At: d.Changes() + at}})
			if l, index, e := do(n); e != api.ErrDead || l != nil || index != 0 {
				t.Fatalf("%s: error %d, %d, %v", what, e, index, l)
			}
			isDead(t, what, n)
			d.Up()
			p.stands(t, what, d)
			has(t, what, open(t, what, d, 0, 3), shadow(t, 0, 3, p.says), 0)
		}
	}
}

// Promise 14.1: Tick, Step, Propose and Compact of one whose power failed ahead: ErrDead; what was there stays there.
func TestPowerFailedAhead(t *testing.T) {
	for _, h := range []api.Hard{{}, hard(3, 3, "0a", "1b"), hard(4, 3, "0a"), based(2, 2, 5, 1, "s", "1a")} {
		for all := 1; all <= 3; all++ {
			for me := range all {
				what := fmt.Sprintf("%d of %d, %v", me, all, h)
				d, p := keeps(t, h)
				n := open(t, what, d, me, all)
				d.Crash(0, 0)
				isDead(t, what, n)
				d.Up()
				isDead(t, what+", the disk is up again", n)
				p.stands(t, what, d)
				has(t, what, open(t, what, d, me, all), shadow(t, me, all, h), h.BaseIndex)
			}
		}
	}
	// Each of the calls finds out by itself.
	calls := map[string]func(n *rnode.Node) api.Errno{
		"Tick":    func(n *rnode.Node) api.Errno { _, e := n.Tick(); return e },
		"Step":    func(n *rnode.Node) api.Errno { _, e := n.Step(api.ViewMsg{}); return e },
		"Propose": func(n *rnode.Node) api.Errno { _, _, e := n.Propose("x"); return e },
		"Compact": func(n *rnode.Node) api.Errno { _, e := n.Compact("x"); return e },
		"Dead": func(n *rnode.Node) api.Errno {
			if n.Dead() {
				return api.ErrDead
			}
			return api.OK
		},
	}
	for what, do := range calls {
		d := disk.New()
		n := open(t, what, d, 0, 2)
		d.Crash(0, 0)
		if e := do(n); e != api.ErrDead {
			t.Errorf("%s: error %d", what, e)
		}
		d.Up()
		isDead(t, what+", the disk is up again", n)
	}
}

// Promise 14.1: what the calls tell is what the master without a disk tells.
func TestTells(t *testing.T) {
	d, p := keeps(t, hard(3, 3, "0a", "1b"))
	n, v := open(t, "tells", d, 0, 3), shadow(t, 0, 3, p.says)
	for range 3 {
		l, e := n.Tick()
		told(t, "Tick", l, e, v.Tick())
	}
	index, l, e := n.Propose("x")
	vIndex, vl, _ := v.Propose("x")
	told(t, "Propose", l, e, vl)
	if index != 3 || vIndex != 3 || len(l) != 2 {
		t.Fatalf("Propose tells %d, %v", index, l)
	}
	for _, m := range []api.ViewMsg{okay(1, 0, 3, 1), okay(2, 0, 3, 3), bare(api.ViewAsk, 1, 0, 3), bare(api.ViewWant, 2, 0, 4), bare(api.ViewWant, 1, 0, 4), prepare(0, 1, 4, 0, 0), whole(api.ViewBegin, 1, 0, 3, hard(4, 4, "0a", "1b", "3x"))} {
		l, e := n.Step(m)
		told(t, fmt.Sprint("Step ", m), l, e, v.Step(m))
	}
	has(t, "behind all", n, v, 0)
	if index, l, e := n.Propose("y"); index != 0 || l != nil || e != api.OK {
		t.Fatalf("Propose of one that follows: %d, %v, error %d", index, l, e)
	}
}

// R2: what is handed in is as it was, and may be changed later; what is answered is the caller's.
func TestTheCallers(t *testing.T) {
	d, _ := keeps(t, hard(0, 0))
	n := open(t, "the caller's", d, 1, 2)
	m := prepare(0, 1, 0, 0, 2, log("0a", "0b")...)
	if _, e := n.Step(m); e != api.OK || m.Entries[0] != (api.LogEntry{S: "a"}) || len(m.Entries) != 2 {
		t.Fatalf("error %d, and %v", e, m)
	}
	m.Entries[0].S, m.Entries[1].S = "changed", "changed"
	next(t, "the first", n, api.Given{Index: 1, S: "a"})
	next(t, "the second", n, api.Given{Index: 2, S: "b"})
	b := whole(api.ViewBegin, 1, 0, 0, hard(1, 1, "0a", "0b", "1c"))
	d, _ = keeps(t, hard(0, 0))
	n = open(t, "the caller's", d, 0, 2)
	if _, e := n.Step(b); e != api.OK {
		t.Fatal(e)
	}
	b.Entries[2].S = "changed"
	if h := n.View().Hard(); !sameHard(h, hard(1, 1, "0a", "0b", "1c")) {
		t.Fatalf("it has %v", h)
	}
	l, e := n.Step(bare(api.ViewWant, 1, 0, 2)) // which it leads, when it is given
	if e != api.OK || len(l) != 1 {
		t.Fatalf("error %d, %v", e, l)
	}
	l, e = n.Step(whole(api.ViewGive, 1, 0, 0, hard(2, 1, "0a", "0b", "1c")))
	if e != api.OK || len(l) != 1 || len(l[0].Entries) != 3 {
		t.Fatalf("error %d, %v", e, l)
	}
	l[0].Entries[0].S = "changed"
	if h := n.View().Hard(); !sameHard(h, hard(2, 2, "0a", "0b", "1c")) {
		t.Fatalf("it has %v", h)
	}
	if index, _, e := n.Propose("d"); e != api.OK || index != 4 {
		t.Fatalf("Propose: %d, error %d", index, e)
	}
	_, records := lies(t, "the caller's", d)
	if s := records[len(records)-1]; s != recBytes(2, 2, 3, log("2d")...) {
		t.Fatalf("the last record is %q", s)
	}
}
