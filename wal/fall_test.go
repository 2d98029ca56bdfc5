package wal_test

import (
	"fmt"
	"math"
	"slices"
	"testing"

	"cohort/api"
	"cohort/disk"
	"cohort/wal"
)

// Example 1.
func TestExample(t *testing.T) {
	d := disk.New()
	l := opened(t, "an empty disk", d, 0)
	fine(t, l.Add("a"))
	d.Crash(0, 0)
	up(t, "the example", d)
	has(t, "the example", opened(t, "the example", d, 0), of("", "a"))
}

// keeps is how many changes a fall may keep of so many that are loose: below 0, each number, and more.
func keeps(loose int) []int {
	l := []int{math.MinInt, -1, math.MaxInt}
	for n := range loose + 2 {
		l = append(l, n)
	}
	return l
}

// within is that behind a fall a disk has one of some states when it is opened, and has it from then on.
func within(t *testing.T, what string, d *disk.Disk, may []state) state {
	t.Helper()
	up(t, what, d)
	l, _, e := wal.Open(d)
	fine(t, e)
	got := taken(l)
	if !slices.ContainsFunc(may, got.is) {
		t.Fatalf("%s: %s and the records %s", what, brief(got.snap), brief(got.records...))
	}
	stays(t, what, l, d, got)
	fine(t, l.Add("behind"))
	stays(t, what+", and one more", l, d, got.with("behind"))
	return got
}

// change is one change that a call does, as the document has it.
type change struct {
	name string
	s    string
	do   func(d *disk.Disk) api.Errno
}

// appends is the change of Add.
func appends(s string) change {
	return change{"Append", s, func(d *disk.Disk) api.Errno { return d.Append("log", s) }}
}

// anew is the changes that make a file anew.
func anew(s string) []change {
	return []change{
		{"Write", s, func(d *disk.Disk) api.Errno { return d.Write("fresh", s) }},
		{"Move", "", func(d *disk.Disk) api.Errno { return d.Move("fresh", "log") }},
	}
}

// call is a call, with what is told ahead of it, what may be there when the power fails in it, and what it comes to.
type call struct {
	name    string
	disk    func(t *testing.T) *disk.Disk // as it is when the log of it was opened, or is to be
	do      func(l *wal.Log, d *disk.Disk) api.Errno
	changes []change
	opens   bool
	before  state
	may     []state
	after   state
}

// calls is calls of all kinds.
func calls() []call {
	s := of("s", "one", "", "three")
	with := func(bytes string) func(t *testing.T) *disk.Disk {
		return func(t *testing.T) *disk.Disk { return laid(t, bytes) }
	}
	open := func(l *wal.Log, d *disk.Disk) api.Errno {
		k, torn, e := wal.Open(d)
		if e != api.OK && (k != nil || torn != 0) {
			return -1
		}
		return e
	}
	reset := func(to state) call {
		return call{"Reset", with(s.bytes()), func(l *wal.Log, d *disk.Disk) api.Errno { return l.Reset(to.snap, to.records) }, anew(to.bytes()), false, s, []state{s, to}, to}
	}
	add := func(records ...string) call {
		c := call{"Add", with(s.bytes()), func(l *wal.Log, d *disk.Disk) api.Errno { return l.Add(records...) }, []change{appends(frames(records...))}, false, s, nil, s.with(records...)}
		for n := range len(records) + 1 {
			c.may = append(c.may, s.with(records[:n]...))
		}
		return c
	}
	return []call{
		{"Open of nothing", func(t *testing.T) *disk.Disk { return disk.New() }, open, anew(of("").bytes()), true, of(""), []state{of("")}, of("")},
		{"Open of an empty file", with(""), open, anew(of("").bytes()), true, of(""), []state{of("")}, of("")},
		{"Open of rubbish", with("rubbish"), open, anew(of("").bytes()), true, of(""), []state{of("")}, of("")},
		{"Open of torn bytes", with(s.bytes() + "torn"), open, anew(s.bytes()), true, s, []state{s}, s},
		add(), add("a"), add(""), add("a", "bb", "", "cccc"),
		reset(of("")), reset(of("new")), reset(of("new", "x", "", "yy")), reset(s),
	}
}

// log is the log that a call is called on. One that opens has none ahead.
func (c call) log(t *testing.T, d *disk.Disk) *wal.Log {
	t.Helper()
	if c.opens {
		return nil
	}
	return opened(t, c.name, d, 0)
}

// Promise 12.2: the power fails as the changes of a call were done up to one of them, with each number of loose ones that stay and of bytes of the next one. The changes are laid by hand, since nobody else comes in between those of a call and its Sync.
func TestCrashInCall(t *testing.T) {
	for i, c := range calls() {
		for done := range len(c.changes) + 1 {
			for _, keep := range keeps(done) {
				longest := 0
				for _, x := range c.changes[:done] {
					longest = max(longest, len(x.s))
				}
				for torn := -1; torn <= longest+1; torn++ {
					what := fmt.Sprintf("call %d, %s, behind %d changes, Crash(%d, %d)", i, c.name, done, keep, torn)
					d := c.disk(t)
					for _, x := range c.changes[:done] {
						fine(t, x.do(d))
					}
					d.Crash(keep, torn)
					got := within(t, what, d, c.may)
					if keep <= 0 && torn <= 0 && !got.is(c.before) {
						t.Fatalf("%s: not what was there ahead", what)
					}
					if done == len(c.changes) && keep >= done && !got.is(c.after) {
						t.Fatalf("%s: not all of it", what)
					}
				}
			}
		}
	}
}

// Promise 12.2: of each number of bytes of an Add just the records stay that are whole in them.
func TestTornAdd(t *testing.T) {
	s, add := of("s", "one"), []string{"a", "", "ccc", "dddd"}
	all := frames(add...)
	for torn := range len(all) + 1 {
		d := laid(t, s.bytes())
		fine(t, d.Append("log", all))
		d.Crash(0, torn)
		many, whole := 0, 0
		for many < len(add) && whole+len(frame(add[many])) <= torn {
			whole += len(frame(add[many]))
			many++
		}
		what := fmt.Sprintf("%d bytes of an Add", torn)
		up(t, what, d)
		l := opened(t, what, d, torn-whole)
		stays(t, what, l, d, s.with(add[:many]...))
	}
}

// Promises 12.1, 12.2: a planned fall at each change of a call, with others' changes loose ahead of it: ErrDead, nothing is changed in the log, and behind it what was told is there.
func TestFallInCall(t *testing.T) {
	for i, c := range calls() {
		for at := range c.changes {
			for _, keep := range keeps(3) {
				for torn := -1; torn < 5; torn++ {
					what := fmt.Sprintf("call %d, %s, a fall at change %d that keeps %d, %d", i, c.name, at, keep, torn)
					d := c.disk(t)
					l := c.log(t, d)
					fine(t, d.Append("other", "xyz"), d.Write("another", "pq"))
					d.Plan([]api.Fall{{At: d.Changes() + at, Keep: keep, Torn: torn}})
					dies(t, what, d, c.do(l, d))
					if !c.opens {
						has(t, what, l, c.before)
					}
					got := within(t, what, d, c.may)
					if !got.is(c.before) {
						t.Fatalf("%s: not what was told", what)
					}
				}
			}
		}
	}
}

// Promise 12.1: the changes of each call are those that the document says, in that order, with a Sync behind each: a fall at the next one loses none.
func TestChangesOfCall(t *testing.T) {
	for i, c := range calls() {
		for at := range len(c.changes) + 1 {
			what := fmt.Sprintf("call %d, %s, a fall behind %d changes", i, c.name, at)
			d, byHand := c.disk(t), c.disk(t)
			for _, x := range c.changes[:at] {
				fine(t, x.do(byHand), byHand.Sync())
			}
			l := c.log(t, d)
			d.Plan([]api.Fall{{At: byHand.Changes()}})
			if e := c.do(l, d); at < len(c.changes) {
				dies(t, what, d, e)
				up(t, what, d)
			} else {
				fine(t, e)
			}
			if d.Changes() != byHand.Changes() || d.Loose() != 0 || !slices.Equal(d.Names(), byHand.Names()) {
				t.Errorf("%s: %d changes, not %d, %d loose, the names %q, not %q", what, d.Changes(), byHand.Changes(), d.Loose(), d.Names(), byHand.Names())
			}
			for _, name := range byHand.Names() {
				got, e := d.Read(name)
				if want, _ := byHand.Read(name); got != want || e != api.OK {
					t.Errorf("%s: %s is %q, error %d, not %q", what, name, got, e, want)
				}
			}
		}
	}
}

// Promise 12.2: when a call was told, any crash leaves what it came to.
func TestCrashBehindCall(t *testing.T) {
	for i, c := range calls() {
		for _, keep := range keeps(2) {
			for torn := -1; torn < 5; torn++ {
				what := fmt.Sprintf("call %d, %s, and Crash(%d, %d) behind it", i, c.name, keep, torn)
				d := c.disk(t)
				fine(t, c.do(c.log(t, d), d), d.Append("other", "xyz"), d.Append("other", "z"))
				d.Crash(keep, torn)
				within(t, what, d, []state{c.after})
			}
		}
	}
}

// Promise 12.2: a log that was opened ahead of a fall goes on behind it, and what it then tells stays.
func TestGoesOnBehindFall(t *testing.T) {
	for i, c := range calls() {
		if c.opens {
			continue
		}
		for at := range c.changes {
			what := fmt.Sprintf("call %d, %s, a fall at change %d", i, c.name, at)
			d := c.disk(t)
			l := c.log(t, d)
			d.Plan([]api.Fall{{At: d.Changes() + at, Keep: 9, Torn: 9}})
			dies(t, what, d, c.do(l, d))
			up(t, what, d)
			stays(t, what+", up again", l, d, c.before)
			fine(t, l.Add("next"))
			stays(t, what+", Add", l, d, c.before.with("next"))
			fine(t, c.do(l, d))
			if c.name == "Reset" {
				stays(t, what+", and again", l, d, c.after)
			}
		}
	}
}

// Promise 12.2: falls one behind the other while torn bytes are taken off leave the same, and as many torn bytes as there were.
func TestFallsInOpen(t *testing.T) {
	d := laid(t, frames("s", "a")+"torn")
	d.Plan([]api.Fall{{At: 1}, {At: 1, Torn: 2}, {At: 2, Keep: 1}, {At: 2}, {At: 3}})
	for range 5 {
		l, torn, e := wal.Open(d)
		if l != nil || torn != 0 {
			t.Fatalf("Open with a fall in it: a log %v, %d torn", l != nil, torn)
		}
		dies(t, "Open with a fall in it", d, e)
		up(t, "Open with a fall in it", d)
		holds(t, "Open with a fall in it", d, frames("s", "a")+"torn")
	}
	stays(t, "behind the falls", opened(t, "behind the falls", d, 4), d, of("s", "a"))
}
