package disk_test

import (
	"fmt"
	"maps"
	"math"
	"testing"

	"cohort/api"
	"cohort/disk"
)

// Example 1.
func TestExample(t *testing.T) {
	d := disk.New()
	fine(t, d.Append("a", "xy"))
	d.Crash(0, 1)
	up(t, d)
	holds(t, "the example", d, texts{"a": "x"})
}

// firm is the files that are sure when loosely begins.
func firm() texts { return texts{"a": "old", "b": "bee", "m": "em", "r": "are"} }

// loosely is a disk with files that are sure, and a loose change of each kind, some of them twice.
func loosely(t *testing.T) *disk.Disk {
	t.Helper()
	d := with(t, firm())
	fine(t, d.Append("a", "xyz"), d.Write("b", "NEW"), d.Move("m", "n"), d.Remove("r"), d.Write("c", "pq"), d.Append("n", "!?"), d.Move("c", "b"))
	counts(t, "loosely", d, 11, 7)
	return d
}

// stages is what loosely has behind so many of its loose changes.
func stages() []texts {
	return []texts{
		{"a": "old", "b": "bee", "m": "em", "r": "are"},
		{"a": "oldxyz", "b": "bee", "m": "em", "r": "are"},
		{"a": "oldxyz", "b": "NEW", "m": "em", "r": "are"},
		{"a": "oldxyz", "b": "NEW", "n": "em", "r": "are"},
		{"a": "oldxyz", "b": "NEW", "n": "em"},
		{"a": "oldxyz", "b": "NEW", "n": "em", "c": "pq"},
		{"a": "oldxyz", "b": "NEW", "n": "em!?", "c": "pq"},
		{"a": "oldxyz", "b": "pq", "n": "em!?"},
	}
}

// tears is what the next change of loosely makes of its file, by how many of its bytes survive from 1 on. A Move and a Remove have none.
func tears() []struct {
	name string
	by   []string
} {
	return []struct {
		name string
		by   []string
	}{
		{"a", []string{"oldx", "oldxy", "oldxyz"}},
		{"b", []string{"N", "NE", "NEW"}},
		{},
		{},
		{"c", []string{"p", "pq"}},
		{"n", []string{"em!", "em!?"}},
		{},
		{},
	}
}

// left is what a crash leaves of loosely.
func left(keep, torn int) texts {
	keep = min(max(keep, 0), 7)
	files, tear := maps.Clone(stages()[keep]), tears()[keep]
	if torn > 0 && tear.name != "" {
		files[tear.name] = tear.by[min(torn, len(tear.by))-1]
	}
	return files
}

// keeps is how many changes a crash may keep of loosely, and how many bytes: below 0, all that are there, and more.
func keeps() (keep, torn []int) {
	return []int{math.MinInt, -1, 0, 1, 2, 3, 4, 5, 6, 7, 8, 100, math.MaxInt}, []int{math.MinInt, -1, 0, 1, 2, 3, 4, 100, math.MaxInt}
}

// Promise 11.2: what a crash leaves, of each kind of change as the next one, and that it is sure from then on.
func TestCrash(t *testing.T) {
	keep, torn := keeps()
	for _, k := range keep {
		for _, n := range torn {
			what := fmt.Sprintf("Crash(%d, %d)", k, n)
			d := loosely(t)
			d.Crash(k, n)
			counts(t, what, d, 11, 0)
			up(t, d)
			holds(t, what, d, left(k, n))
			counts(t, what+", Up", d, 11, 0)
			d.Crash(0, 0)
			up(t, d)
			holds(t, what+", and another one", d, left(k, n))
			fine(t, d.Append("a", "z"))
			counts(t, what+", and a change", d, 12, 1)
		}
	}
}

// Promise 11.2: a fall leaves what a crash would; nothing is left of the change that it strikes at, of any kind.
func TestFallLeaves(t *testing.T) {
	keep, torn := keeps()
	for _, k := range keep {
		for _, n := range torn {
			for name, change := range someChanges() {
				what := fmt.Sprintf("a fall that keeps %d, %d at a %s", k, n, name)
				d := loosely(t)
				d.Plan([]api.Fall{{At: 11, Keep: k, Torn: n}})
				told(t, what, change(d), api.ErrDead)
				counts(t, what, d, 11, 0)
				up(t, d)
				holds(t, what, d, left(k, n))
			}
		}
	}
}

// someChanges has a change of each kind that loosely may do.
func someChanges() map[string]func(d *disk.Disk) api.Errno {
	return map[string]func(d *disk.Disk) api.Errno{
		"Append":            func(d *disk.Disk) api.Errno { return d.Append("a", "more") },
		"Append to none":    func(d *disk.Disk) api.Errno { return d.Append("z", "more") },
		"Append of nothing": func(d *disk.Disk) api.Errno { return d.Append("z", "") },
		"Write":             func(d *disk.Disk) api.Errno { return d.Write("b", "more") },
		"Write of one more": func(d *disk.Disk) api.Errno { return d.Write("z", "more") },
		"Move":              func(d *disk.Disk) api.Errno { return d.Move("a", "b") },
		"Remove":            func(d *disk.Disk) api.Errno { return d.Remove("n") },
	}
}

// Promise 11.2: of a Write that is torn the file is a beginning, also where it was longer; with no bytes torn it is what it was.
func TestTornWrite(t *testing.T) {
	for torn, want := range map[int]texts{-1: {"a": "longer"}, 0: {"a": "longer"}, 1: {"a": "x"}, 2: {"a": "xy"}, 3: {"a": "xy"}} {
		d := with(t, texts{"a": "longer"})
		fine(t, d.Write("a", "xy"), d.Append("a", "z"))
		d.Crash(0, torn)
		up(t, d)
		holds(t, fmt.Sprintf("torn %d", torn), d, want)
	}
}

// Promise 11.2: a change of no bytes survives whole, if bytes of it do, else not at all.
func TestTornNothing(t *testing.T) {
	for torn, want := range map[int]texts{-1: {"a": "x"}, 0: {"a": "x"}, 1: {"a": ""}, 9: {"a": ""}} {
		d := with(t, texts{"a": "x"})
		fine(t, d.Write("a", ""))
		d.Crash(0, torn)
		up(t, d)
		holds(t, fmt.Sprintf("a Write torn at %d", torn), d, want)
	}
	for torn, want := range map[int]texts{-1: {}, 0: {}, 1: {"b": ""}, 9: {"b": ""}} {
		d := disk.New()
		fine(t, d.Append("b", ""))
		d.Crash(0, torn)
		up(t, d)
		holds(t, fmt.Sprintf("an Append torn at %d", torn), d, want)
	}
}

// Promise 11.2: of a dead disk a crash takes nothing, and leaves nothing more.
func TestCrashOfTheDead(t *testing.T) {
	d := loosely(t)
	d.Crash(1, 1)
	d.Crash(7, 100)
	d.Crash(0, 0)
	dark(t, "behind several crashes", d)
	up(t, d)
	holds(t, "behind several crashes", d, left(1, 1))
}

// Promise 11.2: Up of a disk with power tells false, and all goes on.
func TestUp(t *testing.T) {
	d := loosely(t)
	if d.Up() || d.Dead() {
		t.Error("a disk that has power was dead")
	}
	holds(t, "Up of a disk with power", d, stages()[7])
	counts(t, "Up of a disk with power", d, 11, 7)
	d.Crash(2, 0)
	up(t, d)
	if d.Up() || d.Dead() {
		t.Error("a disk that came up was dead")
	}
	holds(t, "Up twice", d, stages()[2])
}

// Promise 11.2: what was synced is there behind any crash, unless it was changed since.
func TestSyncedStays(t *testing.T) {
	keep, torn := keeps()
	for _, k := range keep {
		for _, n := range torn {
			what := fmt.Sprintf("Crash(%d, %d)", k, n)
			d := loosely(t)
			fine(t, d.Write("s", "sure"), d.Write("gone", "x"), d.Remove("gone"), d.Move("a", "moved"), d.Sync())
			want := texts{"b": "pq", "n": "em!?", "s": "sure", "moved": "oldxyz"}
			d.Crash(k, n)
			up(t, d)
			holds(t, what+" behind Sync", d, want)
			fine(t, d.Append("n", "+"), d.Write("z", "y"), d.Remove("z"), d.Move("n", "z"), d.Remove("z"))
			d.Crash(k, n)
			up(t, d)
			for _, name := range []string{"b", "s", "moved"} {
				if s, e := d.Read(name); s != want[name] || e != api.OK {
					t.Errorf("%s, changes of others: %s is %q, error %d", what, name, s, e)
				}
			}
		}
	}
}

// Promise 11.2: files that came, went and moved since the Sync are as they were then.
func TestBackToTheSync(t *testing.T) {
	d := with(t, texts{"a": "1", "b": "2", "c": "3"})
	fine(t, d.Move("a", "n"), d.Move("b", "a"), d.Move("n", "b"), d.Remove("c"), d.Append("c", "4"), d.Write("m", "5"))
	holds(t, "a and b in each other's place", d, texts{"a": "2", "b": "1", "c": "4", "m": "5"})
	d.Crash(0, 0)
	up(t, d)
	holds(t, "behind the crash", d, texts{"a": "1", "b": "2", "c": "3"})
	counts(t, "behind the crash", d, 9, 0)
}
