package disk

import (
	"cohort/api"
)

// kind is what a change does.
type kind int

const (
	appended kind = iota
	written
	moved
	removed
)

// change is a change that nothing but the power could hinder.
type change struct {
	kind kind
	name string
	to   string // of one that moves
	s    string // of one that puts bytes
}

// do does a change to files. They must be those that it was meant for, or a beginning of what was done to them.
func (c change) do(files map[string]file) {
	switch c.kind {
	case appended:
		files[c.name] = file{files[c.name].s + c.s}
	case written:
		files[c.name] = file{c.s}
	case moved:
		files[c.to] = files[c.name]
		delete(files, c.name)
	case removed:
		delete(files, c.name)
	}
}

// putsBytes tells whether a beginning of a change may survive: the others are done whole, or not at all.
func (c change) putsBytes() bool {
	return c.kind == appended || c.kind == written
}

// torn is a change with the first so many of its bytes.
func (c change) torn(many int) change {
	c.s = c.s[:min(many, len(c.s))]
	return c
}

// attempt does a change that nothing but the power can hinder any more, unless a fall strikes at it.
func (d *Disk) attempt(c change) api.Errno {
	if f, ok := d.struck(); ok {
		d.fail(f.Keep, f.Torn)
		return api.ErrDead
	}
	if d.now == nil {
		d.now, d.sure = map[string]file{}, map[string]file{}
	}
	c.do(d.now)
	d.loose = append(d.loose, c)
	d.changes++
	return api.OK
}

// Sync makes all changes sure.
func (d *Disk) Sync() api.Errno {
	if d.Dead() {
		return api.ErrDead
	}
	for _, c := range d.loose {
		d.secure(c.name)
		if c.kind == moved {
			d.secure(c.to)
		}
	}
	d.loose = nil
	return api.OK
}

// secure makes a file sure as it is now, there or not there.
func (d *Disk) secure(name string) {
	f, ok := d.now[name]
	if !ok {
		delete(d.sure, name)
		return
	}
	d.sure[name] = f
}
