package disk_test

import (
	"fmt"
	"maps"
	"math/rand"
	"slices"
	"strings"
	"testing"

	"cohort/api"
	"cohort/disk"
)

// step is one call of a walk. A fall of it may be a crash, or the plan's.
type step struct {
	call     string
	name, to string
	s        string
	falls    []api.Fall
}

// paper is a second definition of a disk: it keeps all changes that are there, and works out files from them each time.
type paper struct {
	done    []step // those that stay or may stay, in order
	sure    int    // how many of them stay
	plan    []api.Fall
	struck  []bool // which falls of the plan did strike
	changes int
	dead    bool
}

// files is what the changes make.
func (p *paper) files() texts {
	files := texts{}
	for _, c := range p.done {
		switch c.call {
		case "Append":
			files[c.name] += c.s
		case "Write":
			files[c.name] = c.s
		case "Move":
			files[c.to] = files[c.name]
			delete(files, c.name)
		case "Remove":
			delete(files, c.name)
		}
	}
	return files
}

// refused is the error of a change that is none.
func (p *paper) refused(x step) api.Errno {
	_, there := p.files()[x.name]
	bad := func(s string) bool { return s == "" || len(s) > 32 || strings.Trim(s, allowed) != "" }
	switch {
	case p.dead:
		return api.ErrDead
	case bad(x.name) || x.call == "Move" && bad(x.to):
		return api.ErrName
	case (x.call == "Move" || x.call == "Remove") && !there:
		return api.ErrNone
	case x.call == "Move" && x.name == x.to:
		return api.ErrArg
	}
	return api.OK
}

// falls is that the power fails.
func (p *paper) falls(f api.Fall) {
	for range f.Keep {
		if p.sure < len(p.done) {
			p.sure++
		}
	}
	rest := p.done[p.sure:]
	p.done = slices.Clone(p.done[:p.sure])
	if len(rest) > 0 && f.Torn > 0 && (rest[0].call == "Append" || rest[0].call == "Write") {
		part := rest[0]
		for len(part.s) > f.Torn {
			part.s = part.s[:len(part.s)-1]
		}
		p.done = append(p.done, part)
	}
	p.sure = len(p.done)
	p.dead = true
}

// change is what comes of a change.
func (p *paper) change(x step) api.Errno {
	if e := p.refused(x); e != api.OK {
		return e
	}
	for i, f := range p.plan {
		if f.At == p.changes && !p.struck[i] {
			p.struck[i] = true
			p.falls(f)
			return api.ErrDead
		}
	}
	p.done = append(p.done, x)
	p.changes++
	return api.OK
}

// does is what comes of any call.
func (p *paper) does(x step) string {
	switch x.call {
	case "Sync":
		if p.dead {
			return fmt.Sprint(api.ErrDead)
		}
		p.sure = len(p.done)
		return fmt.Sprint(api.OK)
	case "Crash":
		if !p.dead {
			p.falls(x.falls[0])
		}
		return ""
	case "Up":
		was := p.dead
		p.dead = false
		return fmt.Sprint(was)
	case "Plan":
		p.plan, p.struck = x.falls, make([]bool, len(x.falls))
		return ""
	}
	return fmt.Sprint(p.change(x))
}

// same is a paper with all of this one.
func (p *paper) same() *paper {
	return &paper{slices.Clone(p.done), p.sure, p.plan, slices.Clone(p.struck), p.changes, p.dead}
}

// do is what a disk tells of a call.
func do(d *disk.Disk, x step) string {
	switch x.call {
	case "Append":
		return fmt.Sprint(d.Append(x.name, x.s))
	case "Write":
		return fmt.Sprint(d.Write(x.name, x.s))
	case "Move":
		return fmt.Sprint(d.Move(x.name, x.to))
	case "Remove":
		return fmt.Sprint(d.Remove(x.name))
	case "Sync":
		return fmt.Sprint(d.Sync())
	case "Crash":
		d.Crash(x.falls[0].Keep, x.falls[0].Torn)
		return ""
	case "Up":
		return fmt.Sprint(d.Up())
	}
	d.Plan(x.falls)
	return ""
}

// stands is that a disk is as the paper has it.
func stands(t *testing.T, walk []step, d *disk.Disk, p *paper) {
	t.Helper()
	if d.Dead() != p.dead || d.Changes() != p.changes || d.Loose() != len(p.done)-p.sure {
		t.Fatalf("behind %v: dead %v, %d changes, %d loose, not %v, %d, %d", walk, d.Dead(), d.Changes(), d.Loose(), p.dead, p.changes, len(p.done)-p.sure)
	}
	files := p.files()
	if l := d.Names(); !p.dead && !slices.Equal(l, slices.Sorted(maps.Keys(files))) {
		t.Fatalf("behind %v: the names %q, not those of %q", walk, l, files)
	}
	for _, name := range []string{"a", "b", "c"} {
		text, there := files[name]
		want := api.OK
		switch {
		case p.dead:
			text, want = "", api.ErrDead
		case !there:
			want = api.ErrNone
		}
		if s, e := d.Read(name); s != text || e != want {
			t.Fatalf("behind %v: %s is %q, error %d, not %q, %d", walk, name, s, e, text, want)
		}
	}
}

// goes does a call on both, and tells whether they are the same behind it.
func goes(t *testing.T, walk []step, d *disk.Disk, p *paper) {
	t.Helper()
	x := walk[len(walk)-1]
	if got, want := do(d, x), p.does(x); got != want {
		t.Fatalf("%v: the last one tells %s, not %s", walk, got, want)
	}
	stands(t, walk, d, p)
}

// fewSteps is calls of each kind on two files.
func fewSteps() []step {
	return []step{
		{call: "Append", name: "a", s: "xy"},
		{call: "Write", name: "a", s: "pqr"},
		{call: "Write", name: "b", s: ""},
		{call: "Move", name: "a", to: "b"},
		{call: "Move", name: "b", to: "a"},
		{call: "Remove", name: "a"},
		{call: "Sync"},
		{call: "Crash", falls: []api.Fall{{Keep: 0, Torn: 1}}},
		{call: "Crash", falls: []api.Fall{{Keep: 1, Torn: 0}}},
		{call: "Crash", falls: []api.Fall{{Keep: 2, Torn: 2}}},
		{call: "Up"},
		{call: "Plan", falls: []api.Fall{{At: 3}, {At: 1, Keep: 1}, {At: 2, Torn: 1}, {At: 1, Torn: 1}}},
	}
}

// Promises 11.1, 11.2: all walks of up to five calls. Each goes on from a clone of what the calls ahead came to.
func TestAllWalks(t *testing.T) {
	var onward func(walk []step, d *disk.Disk, p *paper)
	onward = func(walk []step, d *disk.Disk, p *paper) {
		if len(walk) == 5 {
			return
		}
		for _, x := range fewSteps() {
			next, c, q := append(slices.Clone(walk), x), d.Clone(), p.same()
			goes(t, next, c, q)
			onward(next, c, q)
		}
		stands(t, walk, d, p)
	}
	onward(nil, disk.New(), &paper{})
}

// anyStep is a call that chance picks; one of a hundred is a plan, and Up comes often enough.
func anyStep(r *rand.Rand, changes int) step {
	names := []string{"a", "b", "c", "a", "b", "c", "a", "b", "c", "", "A", longest() + "n"}
	name := func() string { return names[r.Intn(len(names))] }
	fall := func() api.Fall {
		return api.Fall{At: changes + r.Intn(12) - 2, Keep: r.Intn(8) - 1, Torn: r.Intn(6) - 1}
	}
	text := strings.Repeat(string(rune('a'+r.Intn(26))), r.Intn(5))
	switch n := r.Intn(100); {
	case n < 25:
		return step{call: "Append", name: name(), s: text}
	case n < 45:
		return step{call: "Write", name: name(), s: text}
	case n < 60:
		return step{call: "Move", name: name(), to: name()}
	case n < 70:
		return step{call: "Remove", name: name()}
	case n < 77:
		return step{call: "Sync"}
	case n < 81:
		return step{call: "Crash", falls: []api.Fall{fall()}}
	case n < 96:
		return step{call: "Up"}
	}
	l := []api.Fall{}
	for range r.Intn(6) {
		l = append(l, fall())
	}
	return step{call: "Plan", falls: l}
}

// Promises 11.1, 11.2: long walks, with a clone of the disk taken in its place now and then, and the other one left to itself.
func TestLongWalks(t *testing.T) {
	for seed := range int64(400) {
		r := rand.New(rand.NewSource(seed))
		d, p := disk.New(), &paper{}
		walk := []step{}
		for range 150 {
			walk = append(walk, anyStep(r, p.changes))
			goes(t, walk, d, p)
			if r.Intn(20) == 0 {
				other := d
				d = d.Clone()
				for range 5 {
					do(other, anyStep(r, p.changes))
				}
				stands(t, walk, d, p)
			}
		}
	}
}
