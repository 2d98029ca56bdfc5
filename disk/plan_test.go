package disk_test

import (
	"math"
	"slices"
	"testing"

	"cohort/api"
	"cohort/disk"
)

// Promise 11.2: a fall at the next change, of a disk that had none, and of one that had some.
func TestFallAtTheNext(t *testing.T) {
	d := disk.New()
	d.Plan([]api.Fall{{At: 0}})
	told(t, "the first change", d.Write("a", "x"), api.ErrDead)
	dark(t, "behind the fall", d)
	counts(t, "behind the fall", d, 0, 0)
	up(t, d)
	holds(t, "behind the fall", d, nil)
	fine(t, d.Write("a", "x"), d.Append("a", "y"))
	counts(t, "the number of the change that was struck is the next one's", d, 2, 2)
	d.Plan([]api.Fall{{At: d.Changes(), Keep: 1, Torn: 1}})
	told(t, "the third change", d.Remove("a"), api.ErrDead)
	counts(t, "behind the second fall", d, 2, 0)
	up(t, d)
	holds(t, "behind the second fall", d, texts{"a": "xy"})
	fine(t, d.Remove("a"))
	counts(t, "behind all", d, 3, 1)
}

// Promise 11.2: a fall at a later change; those ahead of it are done, and are loose, or were synced.
func TestFallLater(t *testing.T) {
	for synced, want := range map[int]texts{
		0: {"a": "1"},
		1: {"a": "12"},
		2: {"a": "123"},
		3: {"a": "1234"},
		4: {"a": "1234"},
	} {
		d := disk.New()
		d.Plan([]api.Fall{{At: 4, Keep: 1}})
		for i, s := range []string{"1", "2", "3", "4"} {
			if i == synced {
				fine(t, d.Sync())
			}
			fine(t, d.Append("a", s))
		}
		if synced == 4 {
			fine(t, d.Sync())
		}
		counts(t, "ahead of the fall", d, 4, 4-synced)
		fine(t, d.Clone().Sync())
		if d.Dead() {
			t.Error("it is dead ahead of the fall")
		}
		told(t, "the change with the number", d.Append("a", "5"), api.ErrDead)
		up(t, d)
		holds(t, "behind the fall", d, want)
		counts(t, "behind the fall", d, 4, 0)
		fine(t, d.Append("b", "6"), d.Append("b", "7"))
		counts(t, "the fall strikes no more", d, 6, 2)
	}
}

// Promise 11.2: what is refused is no change: no fall strikes at it, and it has no number. Neither has what changes nothing.
func TestFallAtWhatIsRefused(t *testing.T) {
	d := with(t, texts{"a": "x", "b": "y"})
	d.Plan([]api.Fall{{At: 2}})
	for _, bad := range badNames() {
		told(t, "Append of no name", d.Append(bad, "z"), api.ErrName)
		told(t, "Write of no name", d.Write(bad, "z"), api.ErrName)
		told(t, "Move of no name", d.Move(bad, "a"), api.ErrName)
		told(t, "Move to no name", d.Move("a", bad), api.ErrName)
		told(t, "Remove of no name", d.Remove(bad), api.ErrName)
	}
	told(t, "Move of what is not there", d.Move("none", "a"), api.ErrNone)
	told(t, "Move to itself", d.Move("a", "a"), api.ErrArg)
	told(t, "Remove of what is not there", d.Remove("none"), api.ErrNone)
	fine(t, d.Sync())
	holds(t, "ahead of the fall", d, texts{"a": "x", "b": "y"})
	counts(t, "ahead of the fall", d, 2, 0)
	told(t, "a change", d.Append("a", ""), api.ErrDead)
	up(t, d)
	holds(t, "behind the fall", d, texts{"a": "x", "b": "y"})
}

// Promise 11.2: of several falls at one change the first of the plan strikes, then the next one of them, at the change that has the number then.
func TestSeveralFalls(t *testing.T) {
	d := disk.New()
	plan := []api.Fall{{At: 7, Keep: 9}, {At: 3, Keep: 2}, {At: 5, Keep: 0, Torn: 1}, {At: 3, Keep: 1}, {At: 3, Keep: 0}, {At: 5, Keep: 1}}
	d.Plan(plan)
	add := func(s string, want api.Errno) {
		t.Helper()
		told(t, "Append of "+s, d.Append("a", s), want)
	}
	stay := func(changes int, a string) {
		t.Helper()
		up(t, d)
		counts(t, "behind a fall", d, changes, 0)
		if s, _ := d.Read("a"); s != a {
			t.Errorf("behind a fall: %q, not %q", s, a)
		}
	}
	add("1", api.OK)
	add("2", api.OK)
	add("3", api.OK)
	add("-", api.ErrDead)
	stay(3, "12")
	add("-", api.ErrDead)
	stay(3, "12")
	add("-", api.ErrDead)
	stay(3, "12")
	add("45", api.OK)
	add("67", api.OK)
	add("-", api.ErrDead)
	stay(5, "124")
	add("-", api.ErrDead)
	stay(5, "124")
	add("8", api.OK)
	add("9", api.OK)
	add("-", api.ErrDead)
	stay(7, "12489")
	for range 20 {
		add("+", api.OK)
	}
	counts(t, "behind all falls", d, 27, 20)
}

// Promise 11.2: a crash strikes no fall off the plan, and a plan may be laid while the disk is dead.
func TestPlanAndCrash(t *testing.T) {
	d := disk.New()
	d.Plan([]api.Fall{{At: 1, Keep: 1}})
	fine(t, d.Append("a", "x"))
	d.Crash(1, 0)
	up(t, d)
	told(t, "the fall behind a crash", d.Append("a", "y"), api.ErrDead)
	d.Plan([]api.Fall{{At: 2, Keep: 1}})
	dark(t, "a disk with a plan", d)
	up(t, d)
	fine(t, d.Append("a", "z"))
	told(t, "the fall of a plan that a dead disk was given", d.Append("a", "y"), api.ErrDead)
	up(t, d)
	holds(t, "behind all falls", d, texts{"a": "xz"})
}

// Promise 11.2: a fall at a number that has passed, or that is below 0, never strikes.
func TestFallThatPassed(t *testing.T) {
	d := with(t, texts{"a": "x", "b": "y"})
	d.Plan([]api.Fall{{At: 1}, {At: 0}, {At: -1}, {At: math.MinInt}, {At: math.MaxInt}})
	for range 100 {
		fine(t, d.Append("a", "z"))
	}
	counts(t, "behind numbers that passed", d, 102, 100)
	d.Plan([]api.Fall{{At: 101}, {At: 102, Keep: 2}})
	told(t, "the fall behind one that passed", d.Append("a", "z"), api.ErrDead)
	up(t, d)
	holds(t, "behind it", d, texts{"a": "xzz", "b": "y"})
}

// Promise 11.2: a plan takes the place of the one that was there; the falls of that one strike no more.
func TestAnotherPlan(t *testing.T) {
	for what, plan := range map[string][]api.Fall{"a later fall": {{At: 2}}, "no fall": {}, "nil": nil} {
		d := disk.New()
		d.Plan([]api.Fall{{At: 0}, {At: 1}})
		d.Plan(plan)
		fine(t, d.Append("a", "x"), d.Append("a", "y"))
		e := d.Append("a", "z")
		if (e == api.ErrDead) != (len(plan) > 0) || e != api.OK && e != api.ErrDead {
			t.Errorf("%s: error %d", what, e)
		}
	}
	d := disk.New()
	plan := []api.Fall{{At: 0, Keep: 5}}
	for range 5 {
		d.Plan(plan)
		told(t, "the same plan again", d.Append("a", "x"), api.ErrDead)
		up(t, d)
	}
	fine(t, d.Append("a", "x"))
	counts(t, "the same plan again", d, 1, 1)
}

// Promise 11.2: what is handed in is as it was, and may be changed later.
func TestPlanIsKept(t *testing.T) {
	plan := []api.Fall{{At: 2, Keep: 1}, {At: -4}, {At: 1, Keep: 1}, {At: 0}, {At: 1}}
	was := slices.Clone(plan)
	d := disk.New()
	fine(t, d.Append("a", "x"))
	d.Plan(plan)
	if !slices.Equal(plan, was) {
		t.Errorf("the plan is %v behind Plan", plan)
	}
	c := d.Clone()
	for i := range plan {
		plan[i] = api.Fall{At: 9}
	}
	for range 2 {
		told(t, "the plan as it was", d.Append("a", "y"), api.ErrDead)
		up(t, d)
		holds(t, "the plan as it was", d, texts{"a": "x"})
	}
	fine(t, d.Append("a", "y"))
	told(t, "the plan as it was", d.Append("a", "z"), api.ErrDead)
	plan = slices.Clone(was)
	c.Plan(plan)
	told(t, "a fall of the list", c.Append("a", "y"), api.ErrDead)
	if !slices.Equal(plan, was) {
		t.Errorf("the plan is %v behind a fall", plan)
	}
}

// Promise 11.2: a clone is the same in all that may be asked of it, then or later, and both go on apart.
func TestClone(t *testing.T) {
	d := loosely(t)
	d.Plan([]api.Fall{{At: 12, Keep: 2, Torn: 1}, {At: 12, Keep: 0}})
	c := d.Clone()
	if c == d {
		t.Fatal("the clone is the disk itself")
	}
	holds(t, "the clone", c, stages()[7])
	counts(t, "the clone", c, 11, 7)
	fine(t, d.Write("a", "other"))
	holds(t, "the clone, when the disk changed", c, stages()[7])
	counts(t, "the clone, when the disk changed", c, 11, 7)
	fine(t, c.Remove("a"))
	if s, e := d.Read("a"); s != "other" || e != api.OK {
		t.Errorf("the disk, when the clone changed: %q, error %d", s, e)
	}
	told(t, "a fall of the clone", c.Append("b", "x"), api.ErrDead)
	if d.Dead() {
		t.Error("the disk is dead with its clone")
	}
	told(t, "the same fall of the disk", d.Append("b", "x"), api.ErrDead)
	up(t, c)
	holds(t, "the clone behind its fall", c, left(2, 1))
	if !d.Dead() {
		t.Error("the disk came up with its clone")
	}
	dead := d.Clone()
	dark(t, "the clone of a dead disk", dead)
	up(t, dead)
	holds(t, "the clone of a dead disk", dead, left(2, 1))
	up(t, d)
	for _, each := range []*disk.Disk{d, c, dead} {
		counts(t, "behind the fall", each, 12, 0)
		told(t, "the second fall", each.Append("b", "x"), api.ErrDead)
		up(t, each)
		fine(t, each.Append("b", "x"))
	}
}

// Promise 11.2: the loose changes of a clone are its own, and so is what is sure of it.
func TestCloneLoose(t *testing.T) {
	for _, many := range []int{0, 1, 2, 3, 4, 5, 8, 9, 17} {
		d := with(t, texts{"a": ""})
		for range many {
			fine(t, d.Append("a", "x"))
		}
		c := d.Clone()
		fine(t, d.Append("a", "d"), d.Append("a", "d"))
		fine(t, c.Append("a", "c"), c.Append("b", "c"))
		e := c.Clone()
		fine(t, e.Sync())
		e.Crash(0, 0)
		d.Crash(many+1, 0)
		c.Crash(many+1, 0)
		up(t, d)
		up(t, c)
		up(t, e)
		x := string(slices.Repeat([]byte("x"), many))
		holds(t, "the disk", d, texts{"a": x + "d"})
		holds(t, "the clone", c, texts{"a": x + "c"})
		holds(t, "the clone of the clone", e, texts{"a": x + "c", "b": "c"})
	}
}

// A long plan, and many changes.
func TestManyFalls(t *testing.T) {
	const many = 20000
	plan := []api.Fall{}
	for i := range many {
		plan = append(plan, api.Fall{At: (i*7919)%many*2 + 1, Keep: 1})
	}
	d := disk.New()
	d.Plan(plan)
	falls := 0
	for range 3 * many {
		n := d.Changes()
		if e := d.Write("a", "x"); e == api.ErrDead {
			if n%2 == 0 {
				t.Fatalf("a fall at %d", n)
			}
			falls++
			up(t, d)
		}
	}
	if falls != many || d.Changes() != 2*many {
		t.Errorf("%d falls, %d changes, not %d and %d", falls, d.Changes(), many, 2*many)
	}
}
