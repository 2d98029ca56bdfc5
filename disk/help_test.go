package disk_test

import (
	"maps"
	"slices"
	"strings"
	"testing"

	"cohort/api"
	"cohort/disk"
)

// allowed is the bytes that names may have, as the document has them.
const allowed = "abcdefghijklmnopqrstuvwxyz0123456789.-"

// texts is files by their names.
type texts map[string]string

// longest is a name of as many bytes as there may be.
func longest() string { return strings.Repeat("n", api.MaxName) }

// badNames is texts that are no names.
func badNames() []string {
	return []string{"", " ", "A", "a/b", "a b", "a_b", "a\x00", "\x00", "Z", "`", "{", "/", ":", ",", "é", "\xff", "a\n", longest() + "n", strings.Repeat("n", 1000)}
}

// fine is that a call told no error.
func fine(t *testing.T, l ...api.Errno) {
	t.Helper()
	for i, e := range l {
		if e != api.OK {
			t.Fatalf("call %d: error %d", i, e)
		}
	}
}

// told is that a call told an error.
func told(t *testing.T, what string, got, want api.Errno) {
	t.Helper()
	if got != want {
		t.Errorf("%s: error %d, not %d", what, got, want)
	}
}

// holds is that a disk with power has just these files.
func holds(t *testing.T, what string, d *disk.Disk, want texts) {
	t.Helper()
	if d.Dead() {
		t.Errorf("%s: the disk is dead", what)
		return
	}
	if l := d.Names(); !slices.Equal(l, slices.Sorted(maps.Keys(want))) {
		t.Errorf("%s: the names %q, not those of %q", what, l, want)
	}
	for name, text := range want {
		if s, e := d.Read(name); s != text || e != api.OK {
			t.Errorf("%s: %s is %q, error %d, not %q", what, name, s, e, text)
		}
	}
	for _, name := range []string{"a", "b", "c", "m", "n", "r", "none", longest()} {
		if _, ok := want[name]; ok {
			continue
		}
		if s, e := d.Read(name); s != "" || e != api.ErrNone {
			t.Errorf("%s: %s, which is not there, is %q, error %d", what, name, s, e)
		}
	}
}

// counts is how many changes there were, and how many are loose.
func counts(t *testing.T, what string, d *disk.Disk, changes, loose int) {
	t.Helper()
	if d.Changes() != changes || d.Loose() != loose {
		t.Errorf("%s: %d changes, %d loose, not %d and %d", what, d.Changes(), d.Loose(), changes, loose)
	}
}

// with is a disk with files that are sure, and with no change that is loose. It has had a change for each.
func with(t *testing.T, files texts) *disk.Disk {
	t.Helper()
	d := disk.New()
	for _, name := range slices.Sorted(maps.Keys(files)) {
		fine(t, d.Write(name, files[name]))
	}
	fine(t, d.Sync())
	return d
}

// up turns the power of a dead disk on.
func up(t *testing.T, d *disk.Disk) {
	t.Helper()
	if !d.Dead() {
		t.Fatal("the disk is not dead")
	}
	if !d.Up() {
		t.Fatal("Up tells that a dead disk was not")
	}
	if d.Dead() {
		t.Fatal("the disk is dead behind Up")
	}
}
