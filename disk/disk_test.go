package disk_test

import (
	"slices"
	"strings"
	"testing"

	"cohort/api"
	"cohort/disk"
)

// The numbers of errors and limits, as the document has them.
func TestNumbers(t *testing.T) {
	if api.ErrName != 110 || api.MaxName != 32 || api.ErrArg != 1 || api.ErrNone != 2 || api.ErrDead != 7 {
		t.Error(api.ErrName, api.MaxName, api.ErrArg, api.ErrNone, api.ErrDead)
	}
}

// Promise 11.1: a new disk has power, and nothing else; so has one that nobody made.
func TestNew(t *testing.T) {
	for what, d := range map[string]*disk.Disk{"New": disk.New(), "a zero disk": {}} {
		holds(t, what, d, nil)
		counts(t, what, d, 0, 0)
		fine(t, d.Sync())
		holds(t, what+", synced", d, nil)
		c := d.Clone()
		d.Crash(1, 1)
		up(t, d)
		holds(t, what+", behind a crash", d, nil)
		told(t, what+", Remove", d.Remove("a"), api.ErrNone)
		told(t, what+", Move", d.Move("a", "b"), api.ErrNone)
		fine(t, d.Append("a", "x"), c.Write("b", "y"))
		holds(t, what+", with a file", d, texts{"a": "x"})
		holds(t, what+", its clone with another", c, texts{"b": "y"})
	}
	if disk.New() == disk.New() {
		t.Error("New tells the same disk twice")
	}
}

// Promise 11.1: each byte, alone and at each place of a name.
func TestNameBytes(t *testing.T) {
	for i := range 256 {
		c := string([]byte{byte(i)})
		want := strings.Contains(allowed, c)
		for _, s := range []string{c, c + "ab", "a" + c + "b", "ab" + c, c + c, longest()[1:] + c, c + longest()[1:]} {
			if disk.Name(s) != want {
				t.Errorf("Name(%q) is %v", s, !want)
			}
		}
		told(t, "a file by the name of one byte", disk.New().Append(c, "x"), map[bool]api.Errno{true: api.OK, false: api.ErrName}[want])
	}
}

// Promise 11.1: names by how long they are.
func TestNameLength(t *testing.T) {
	for n := range 3 * api.MaxName {
		want := n >= 1 && n <= api.MaxName
		for _, c := range []string{"a", "z", "0", "9", ".", "-"} {
			if s := strings.Repeat(c, n); disk.Name(s) != want {
				t.Errorf("Name(%q), of %d bytes, is %v", s, n, !want)
			}
		}
	}
	for _, s := range []string{allowed[:32], allowed[6:], ".", "..", "-", "--", "log", "part-7", "c-1-2-4-0"} {
		if !disk.Name(s) {
			t.Errorf("%q is no name", s)
		}
	}
	for _, s := range badNames() {
		if disk.Name(s) {
			t.Errorf("%q is a name", s)
		}
	}
}

// Promise 11.1: bytes come behind a file, which comes, if it is not there.
func TestAppend(t *testing.T) {
	d := disk.New()
	fine(t, d.Append("a", "xy"))
	holds(t, "a file that was not there", d, texts{"a": "xy"})
	fine(t, d.Append("a", "z"))
	holds(t, "a file that was there", d, texts{"a": "xyz"})
	fine(t, d.Append("a", ""))
	holds(t, "no bytes behind a file", d, texts{"a": "xyz"})
	fine(t, d.Append("b", ""))
	holds(t, "no bytes behind none", d, texts{"a": "xyz", "b": ""})
	counts(t, "all of them", d, 4, 4)
	fine(t, d.Sync(), d.Append("b", "\x00\xff"), d.Append(longest(), "l"), d.Append("a", "a"))
	holds(t, "behind a Sync", d, texts{"a": "xyza", "b": "\x00\xff", longest(): "l"})
	counts(t, "behind a Sync", d, 7, 3)
}

// Promise 11.1: the file is the bytes, whatever it was.
func TestWrite(t *testing.T) {
	d := disk.New()
	fine(t, d.Write("a", "xy"))
	holds(t, "a file that was not there", d, texts{"a": "xy"})
	fine(t, d.Write("a", "z"))
	holds(t, "a file that was there", d, texts{"a": "z"})
	fine(t, d.Write("a", "z"))
	counts(t, "the same bytes again", d, 3, 3)
	fine(t, d.Write("a", ""), d.Write("b", ""))
	holds(t, "no bytes", d, texts{"a": "", "b": ""})
	fine(t, d.Append("a", "pq"), d.Write("a", "long\nand\x00longer"), d.Append("a", "!"))
	holds(t, "among Appends", d, texts{"a": "long\nand\x00longer!", "b": ""})
	counts(t, "all of them", d, 8, 8)
}

// Promise 11.1: a file has all bytes that there are, many of them, too.
func TestBytes(t *testing.T) {
	all := make([]byte, 256)
	for i := range all {
		all[i] = byte(i)
	}
	s := strings.Repeat(string(all), 1000)
	d := disk.New()
	fine(t, d.Write("a", s), d.Append("b", s), d.Append("b", s))
	holds(t, "many bytes", d, texts{"a": s, "b": s + s})
}

// Promise 11.1: the file has the other name, in the place of what had it.
func TestMove(t *testing.T) {
	d := with(t, texts{"a": "one", "b": "two", "c": ""})
	fine(t, d.Move("a", "n"))
	holds(t, "to a name that is not there", d, texts{"n": "one", "b": "two", "c": ""})
	fine(t, d.Move("b", "n"))
	holds(t, "to a name that is there", d, texts{"n": "two", "c": ""})
	told(t, "what was moved, again", d.Move("b", "n"), api.ErrNone)
	fine(t, d.Move("n", "b"), d.Move("c", "b"))
	holds(t, "a file of no bytes", d, texts{"b": ""})
	counts(t, "all of them", d, 7, 4)
	fine(t, d.Append("b", "x"), d.Append("c", "y"), d.Move("b", "m"), d.Append("m", "z"))
	holds(t, "a file goes on by its other name", d, texts{"c": "y", "m": "xz"})
}

// Promise 11.1: a file goes, and may come again.
func TestRemove(t *testing.T) {
	d := with(t, texts{"a": "one", "b": "two"})
	fine(t, d.Remove("a"))
	holds(t, "one of two", d, texts{"b": "two"})
	told(t, "again", d.Remove("a"), api.ErrNone)
	fine(t, d.Append("a", "x"))
	holds(t, "an Append behind it", d, texts{"a": "x", "b": "two"})
	fine(t, d.Remove("b"), d.Remove("a"))
	holds(t, "all", d, nil)
	counts(t, "all of them", d, 6, 4)
	fine(t, d.Sync())
	holds(t, "all, synced", d, nil)
}

// Promise 11.1: names are sorted by their bytes, however the files came.
func TestNames(t *testing.T) {
	want := []string{"-", "-a", ".", "..", "0", "9", "a", "a-", "a.", "a0", "aa", "ab", "b", "part-1", "part-10", "part-2", "z"}
	for turn := range len(want) {
		d := disk.New()
		for i := range want {
			fine(t, d.Append(want[(7*i+turn)%len(want)], "x"))
		}
		if l := d.Names(); !slices.Equal(l, want) {
			t.Errorf("%q", l)
		}
	}
}

// The order of errors: a dead disk, names, what is not there, the same name twice.
func TestErrors(t *testing.T) {
	for _, bad := range badNames() {
		d := with(t, texts{"a": "x", "b": "y"})
		told(t, "Append of no name", d.Append(bad, "z"), api.ErrName)
		told(t, "Append of no name, no bytes", d.Append(bad, ""), api.ErrName)
		told(t, "Write of no name", d.Write(bad, "z"), api.ErrName)
		told(t, "Move of no name", d.Move(bad, "n"), api.ErrName)
		told(t, "Move to no name", d.Move("a", bad), api.ErrName)
		told(t, "Move of no name to itself", d.Move(bad, bad), api.ErrName)
		told(t, "Move to no name of what is not there", d.Move("none", bad), api.ErrName)
		told(t, "Remove of no name", d.Remove(bad), api.ErrName)
		if s, e := d.Read(bad); s != "" || e != api.ErrName {
			t.Errorf("Read of %q: %q, error %d", bad, s, e)
		}
		holds(t, "behind names that are none", d, texts{"a": "x", "b": "y"})
		counts(t, "behind names that are none", d, 2, 0)
	}
	d := with(t, texts{"a": "x", "b": "y"})
	told(t, "Move of what is not there", d.Move("none", "a"), api.ErrNone)
	told(t, "Move of what is not there to itself", d.Move("none", "none"), api.ErrNone)
	told(t, "Move to itself", d.Move("a", "a"), api.ErrArg)
	told(t, "Remove of what is not there", d.Remove("none"), api.ErrNone)
	holds(t, "behind what was refused", d, texts{"a": "x", "b": "y"})
	counts(t, "behind what was refused", d, 2, 0)
	fine(t, d.Remove("a"))
	told(t, "Move of what went", d.Move("a", "b"), api.ErrNone)
	told(t, "Move of what went to itself", d.Move("a", "a"), api.ErrNone)
	told(t, "Remove of what went", d.Remove("a"), api.ErrNone)
	counts(t, "behind what went", d, 3, 1)
}

// dark is that a disk without power tells ErrDead, whatever it is asked, and that nothing comes of it.
func dark(t *testing.T, what string, d *disk.Disk) {
	t.Helper()
	changes, loose := d.Changes(), d.Loose()
	if !d.Dead() {
		t.Errorf("%s: it is not dead", what)
	}
	for _, name := range append(badNames(), "a", "b", "none") {
		told(t, what+", Append", d.Append(name, "x"), api.ErrDead)
		told(t, what+", Append of no bytes", d.Append(name, ""), api.ErrDead)
		told(t, what+", Write", d.Write(name, "x"), api.ErrDead)
		told(t, what+", Move", d.Move(name, "b"), api.ErrDead)
		told(t, what+", Move to it", d.Move("a", name), api.ErrDead)
		told(t, what+", Move to itself", d.Move(name, name), api.ErrDead)
		told(t, what+", Remove", d.Remove(name), api.ErrDead)
		if s, e := d.Read(name); s != "" || e != api.ErrDead {
			t.Errorf("%s, Read of %q: %q, error %d", what, name, s, e)
		}
	}
	told(t, what+", Sync", d.Sync(), api.ErrDead)
	if l := d.Names(); len(l) != 0 {
		t.Errorf("%s: it tells the names %q", what, l)
	}
	counts(t, what, d, changes, loose)
}

// Promise 11.1: a dead disk.
func TestDark(t *testing.T) {
	d := with(t, texts{"a": "x", "b": "y"})
	fine(t, d.Write("a", "z"))
	d.Crash(0, 0)
	dark(t, "a dead disk", d)
	counts(t, "a dead disk", d, 3, 0)
	up(t, d)
	holds(t, "behind what a dead disk was asked for", d, texts{"a": "x", "b": "y"})
	counts(t, "behind what a dead disk was asked for", d, 3, 0)
}

// Promises 11.1, 11.2: a nil disk is dead, and stays it.
func TestNil(t *testing.T) {
	var d *disk.Disk
	dark(t, "a nil disk", d)
	d.Plan([]api.Fall{{At: 0, Keep: 1, Torn: 1}})
	d.Plan(nil)
	d.Crash(1, 1)
	if d.Up() {
		t.Error("a nil disk is up")
	}
	if d.Clone() != nil {
		t.Error("a nil disk has a clone")
	}
	counts(t, "a nil disk", d, 0, 0)
	dark(t, "a nil disk, behind Up", d)
}

// Promise 11.1: what is synced is sure, and what is not may go.
func TestSync(t *testing.T) {
	d := disk.New()
	fine(t, d.Append("a", "x"), d.Write("b", "y"), d.Write("c", "z"), d.Move("b", "m"), d.Remove("c"))
	counts(t, "ahead of Sync", d, 5, 5)
	fine(t, d.Sync())
	counts(t, "behind Sync", d, 5, 0)
	holds(t, "behind Sync", d, texts{"a": "x", "m": "y"})
	fine(t, d.Sync())
	counts(t, "behind a second Sync", d, 5, 0)
	d.Crash(0, 0)
	up(t, d)
	holds(t, "behind a crash", d, texts{"a": "x", "m": "y"})
}

// What is told is the caller's own.
func TestNamesAreTheCallers(t *testing.T) {
	d := with(t, texts{"a": "x", "b": "y"})
	l := d.Names()
	l[0], l[1] = "n", "a"
	_ = append(l[:0], "zz")
	holds(t, "behind a change of what Names told", d, texts{"a": "x", "b": "y"})
}
