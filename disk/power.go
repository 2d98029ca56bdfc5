package disk

import (
	"cmp"
	"maps"
	"slices"

	"cohort/api"
)

// Dead tells whether the power is off.
func (d *Disk) Dead() bool { return d == nil || d.dead }

// Crash lets the power fail: so many loose changes survive, and so many bytes of the next one.
func (d *Disk) Crash(keep, torn int) {
	if d.Dead() {
		return
	}
	d.fail(keep, torn)
}

// fail lets the power of a disk fail that has it. What survives is sure from then on.
func (d *Disk) fail(keep, torn int) {
	keep = min(max(keep, 0), len(d.loose))
	for _, c := range d.loose[:keep] {
		c.do(d.sure)
	}
	if keep < len(d.loose) && torn > 0 && d.loose[keep].putsBytes() {
		d.loose[keep].torn(torn).do(d.sure)
	}
	d.now, d.loose, d.dead = maps.Clone(d.sure), nil, true
}

// Up turns the power on.
func (d *Disk) Up() bool {
	if d == nil || !d.dead {
		return false
	}
	d.dead = false
	return true
}

// Plan lays where the power fails.
func (d *Disk) Plan(l []api.Fall) {
	if d == nil {
		return
	}
	// Numbers that have passed never come again, so a fall at one of them strikes nothing.
	d.plan = slices.DeleteFunc(slices.Clone(l), func(f api.Fall) bool { return f.At < d.changes })
	slices.SortStableFunc(d.plan, func(a, b api.Fall) int { return cmp.Compare(a.At, b.At) })
}

// struck takes the fall off the plan that strikes at the next change, and tells whether there is one.
func (d *Disk) struck() (api.Fall, bool) {
	// No fall is ever behind: each number has its falls taken off ahead of the change that has it.
	if len(d.plan) == 0 || d.plan[0].At != d.changes {
		return api.Fall{}, false
	}
	f := d.plan[0]
	d.plan = d.plan[1:]
	return f, true
}
