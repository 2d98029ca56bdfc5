package wal_test

import (
	"fmt"
	"slices"
	"strings"
	"testing"

	"cohort/api"
	"cohort/disk"
	"cohort/wal"
)

// Promise 12.1: Add of none, of one, of several, of empty texts and of great ones, behind any state: one change each.
func TestAdd(t *testing.T) {
	great := strings.Repeat("great", 50000)
	for i, s := range states() {
		for j, add := range [][]string{nil, {}, {"a"}, {""}, {"a", "b"}, {"", ""}, {"b", "", "a", "b"}, {great}, {"x", great, great, "y"}, {frame("a")}, s.records} {
			what := fmt.Sprintf("add %d behind state %d", j, i)
			l, d := logOf(t, s)
			fine(t, l.Add(add...))
			if d.Changes() != 2 {
				t.Errorf("%s: %d changes", what, d.Changes()-1)
			}
			stays(t, what, l, d, s.with(add...))
			fine(t, l.Add("z"))
			stays(t, what+", and one more", l, d, s.with(add...).with("z"))
		}
	}
}

// Promise 12.1: records that are added one by one and all at once are the same file.
func TestAddOneByOne(t *testing.T) {
	l, d := logOf(t, of("s"))
	want := of("s")
	for i := range 300 {
		r := strings.Repeat("r", i)
		fine(t, l.Add(r))
		want = want.with(r)
		has(t, fmt.Sprint("behind ", i), l, want)
	}
	stays(t, "one by one", l, d, want)
	k, f := logOf(t, of("s"))
	fine(t, k.Add(want.records...))
	stays(t, "all at once", k, f, want)
	if d.Changes() != 301 || f.Changes() != 2 {
		t.Errorf("%d and %d changes", d.Changes(), f.Changes())
	}
}

// Promise 12.1: Reset with and without records, of any log, by a Write and a Move.
func TestReset(t *testing.T) {
	for i, s := range states() {
		for j, to := range states() {
			what := fmt.Sprintf("state %d, laid anew as state %d", i, j)
			l, d := logOf(t, s)
			fine(t, l.Add("gone"), l.Reset(to.snap, to.records))
			if d.Changes() != 4 {
				t.Errorf("%s: %d changes", what, d.Changes()-2)
			}
			if names := d.Names(); !slices.Equal(names, []string{"log"}) {
				t.Errorf("%s: the names %q", what, names)
			}
			stays(t, what, l, d, to)
			fine(t, l.Add("x", ""))
			stays(t, what+", and more", l, d, to.with("x", ""))
		}
	}
}

// Promise 12.1: Reset with no list is Reset with an empty one.
func TestResetNil(t *testing.T) {
	for _, records := range [][]string{nil, {}} {
		l, d := logOf(t, of("s", "a", "b"))
		fine(t, l.Reset("t", records))
		stays(t, "no records", l, d, of("t"))
		fine(t, l.Reset("", records))
		stays(t, "nothing", l, d, of(""))
	}
}

// Promise 12.1: what goes through a log from an empty disk on.
func TestFromNothing(t *testing.T) {
	d := disk.New()
	l := opened(t, "an empty disk", d, 0)
	has(t, "an empty disk", l, of(""))
	fine(t, l.Add("a", "b"))
	has(t, "Add", l, of("", "a", "b"))
	fine(t, l.Reset("s", []string{"c"}))
	has(t, "Reset", l, of("s", "c"))
	fine(t, l.Add("d"))
	has(t, "Add behind it", l, of("s", "c", "d"))
	fine(t, l.Reset(l.Snap(), l.All()))
	stays(t, "Reset with the same", l, d, of("s", "c", "d"))
}

// R2: what All tells can be changed, and the log is as it was; nor is what it told changed by the log.
func TestAllIsTheCallers(t *testing.T) {
	ways := map[string]func() (*wal.Log, *disk.Disk){
		"Open": func() (*wal.Log, *disk.Disk) { return logOf(t, of("s", "a", "b", "c")) },
		"torn": func() (*wal.Log, *disk.Disk) {
			d := laid(t, frames("s", "a", "b", "c")+"torn")
			return opened(t, "torn", d, 4), d
		},
		"Add": func() (*wal.Log, *disk.Disk) {
			l, d := logOf(t, of("s"))
			fine(t, l.Add("a"), l.Add("b"), l.Add("c"))
			return l, d
		},
		"Reset": func() (*wal.Log, *disk.Disk) {
			l, d := logOf(t, of("t", "x"))
			fine(t, l.Reset("s", []string{"a", "b", "c"}))
			return l, d
		},
	}
	for name, f := range ways {
		l, d := f()
		all, other := l.All(), l.All()
		all[0], all[2] = "x", "y"
		all = append(all[:1], "z", "z", "z", "z")
		stays(t, name, l, d, of("s", "a", "b", "c"))
		_ = append(other[:3], "w")
		fine(t, l.Add("d"))
		_ = append(other[:2], "v")
		stays(t, name+", and one more", l, d, of("s", "a", "b", "c", "d"))
		told := l.All()
		fine(t, l.Add("e"), l.Reset("n", []string{"m"}), l.Add("l"))
		if !slices.Equal(told, []string{"a", "b", "c", "d"}) || !slices.Equal(all, []string{"x", "z", "z", "z", "z"}) {
			t.Errorf("%s: what was told is now %q and %q", name, told, all)
		}
		stays(t, name+", laid anew", l, d, of("n", "m", "l"))
	}
}

// R2: what is handed in is as it was, also in the room behind it, and can be changed later.
func TestHandedIn(t *testing.T) {
	for name, hand := range map[string]func(l *wal.Log, records []string) api.Errno{
		"Add":   func(l *wal.Log, records []string) api.Errno { return l.Add(records...) },
		"Reset": func(l *wal.Log, records []string) api.Errno { return l.Reset("s", records) },
	} {
		room := []string{"a", "b", "c", "d"}
		l, d := logOf(t, of("s"))
		fine(t, hand(l, room[:2]), l.Add("x"))
		if !slices.Equal(room, []string{"a", "b", "c", "d"}) {
			t.Errorf("%s: what was handed in is now %q", name, room)
		}
		stays(t, name, l, d, of("s", "a", "b", "x"))
		l, d = logOf(t, of("s"))
		fine(t, hand(l, room))
		room[0], room[3] = "y", "z"
		stays(t, name+", changed later", l, d, of("s", "a", "b", "c", "d"))
		l.All()[1] = "w"
		fine(t, l.Add(room[3]))
		stays(t, name+", and one more", l, d, of("s", "a", "b", "c", "d", "z"))
		if !slices.Equal(room, []string{"y", "b", "c", "z"}) {
			t.Errorf("%s: what was handed in is now %q", name, room)
		}
	}
}

// Promise 12.1: a nil log tells ErrArg, and nothing.
func TestNilLog(t *testing.T) {
	var l *wal.Log
	for i, e := range []api.Errno{l.Add(), l.Add("a"), l.Add("a", "b"), l.Reset("", nil), l.Reset("s", []string{"a"})} {
		if e != api.ErrArg {
			t.Errorf("call %d of a nil log: error %d", i, e)
		}
	}
	if l.Snap() != "" || len(l.All()) != 0 || l.Len() != 0 {
		t.Errorf("a nil log has %q, %q, %d", l.Snap(), l.All(), l.Len())
	}
}

// R1: a log that no Open made has no disk, and is empty.
func TestLogWithoutDisk(t *testing.T) {
	l := &wal.Log{}
	for i, e := range []api.Errno{l.Add(), l.Add("a"), l.Reset("s", []string{"a"})} {
		if e != api.ErrDead {
			t.Errorf("call %d of a log without a disk: error %d", i, e)
		}
	}
	has(t, "a log without a disk", l, of(""))
}

// Promise 12.1: with a dead disk Add and Reset tell ErrDead, and nothing is changed; with power it goes on.
func TestDeadDisk(t *testing.T) {
	for i, s := range states() {
		what := fmt.Sprint("state ", i)
		l, d := logOf(t, s)
		d.Crash(0, 0)
		for j, e := range []api.Errno{l.Add(), l.Add("a"), l.Add("a", "b"), l.Reset("", nil), l.Reset("n", []string{"a"})} {
			dies(t, fmt.Sprintf("%s, call %d", what, j), d, e)
			has(t, fmt.Sprintf("%s, call %d", what, j), l, s)
		}
		up(t, what, d)
		stays(t, what+", up again", l, d, s)
		fine(t, l.Add("z"))
		stays(t, what+", and one more", l, d, s.with("z"))
	}
}
