package store_test

import (
	"encoding/binary"
	"fmt"
	"hash/crc32"
	"maps"
	"slices"
	"strings"
	"testing"

	"cohort/api"
	"cohort/disk"
	"cohort/store"
)

const greatest = int(^uint(0) >> 1)

// texts is texts by their numbers.
type texts map[int]string

// frame is a frame as chapter 1 has it, made by others than package wire.
func frame(s string) string {
	b := binary.AppendUvarint(nil, uint64(len(s)))
	b = append(b, s...)
	return string(binary.LittleEndian.AppendUint32(b, crc32.ChecksumIEEE(b)))
}

// part is the name of the file of a number's text.
func part(n int) string { return fmt.Sprintf("part-%d", n) }

// brief is a text, cut short where it is long.
func brief(s string) string {
	if len(s) > 20 {
		return fmt.Sprintf("%q.. (%d bytes)", s[:20], len(s))
	}
	return fmt.Sprintf("%q", s)
}

// opened is an empty store on a new disk.
func opened(t *testing.T, budget int) (*store.Store, *disk.Disk) {
	t.Helper()
	d := disk.New()
	s, e := store.New(d, budget)
	if s == nil || e != api.OK {
		t.Fatalf("New with a budget of %d: a store %v, error %d", budget, s != nil, e)
	}
	return s, d
}

// filled is a store with texts by the numbers 0, 1, 2 .., put in that order.
func filled(t *testing.T, budget int, l ...string) (*store.Store, *disk.Disk) {
	t.Helper()
	s, d := opened(t, budget)
	for n, text := range l {
		puts(t, s, n, text)
	}
	return s, d
}

// fine is that no call told an error.
func fine(t *testing.T, l ...api.Errno) {
	t.Helper()
	for i, e := range l {
		if e != api.OK {
			t.Fatalf("call %d: error %d", i, e)
		}
	}
}

// puts is that a text is put.
func puts(t *testing.T, s *store.Store, n int, text string) {
	t.Helper()
	if e := s.Put(n, text); e != api.OK {
		t.Fatalf("Put(%d, %s): error %d", n, brief(text), e)
	}
}

// gets is that a number has a text.
func gets(t *testing.T, s *store.Store, n int, want string) {
	t.Helper()
	if text, e := s.Get(n); text != want || e != api.OK {
		t.Fatalf("Get(%d): %s, error %d, not %s", n, brief(text), e, brief(want))
	}
}

// fails is that Get tells an error, and no text.
func fails(t *testing.T, s *store.Store, n int, want api.Errno) {
	t.Helper()
	if text, e := s.Get(n); text != "" || e != want {
		t.Fatalf("Get(%d): %s, error %d, not %d", n, brief(text), e, want)
	}
}

// drops is what Drop tells.
func drops(t *testing.T, s *store.Store, n int, want bool) {
	t.Helper()
	if got := s.Drop(n); got != want {
		t.Fatalf("Drop(%d): %v", n, got)
	}
}

// counts is what Used and Spills tell.
func counts(t *testing.T, what string, s *store.Store, used, spills int) {
	t.Helper()
	if s.Used() != used || s.Spills() != spills {
		t.Fatalf("%s: %d bytes used, %d spills, not %d and %d", what, s.Used(), s.Spills(), used, spills)
	}
}

// numbers is what Numbers tells.
func numbers(t *testing.T, what string, s *store.Store, want ...int) {
	t.Helper()
	if got := slices.Collect(s.Numbers()); !slices.Equal(got, want) {
		t.Fatalf("%s: the numbers %v, not %v", what, got, want)
	}
}

// away is that the disk holds the frames of these texts. Files of others may be there.
func away(t *testing.T, what string, d *disk.Disk, want texts) {
	t.Helper()
	for n, text := range want {
		if file, e := d.Read(part(n)); file != frame(text) || e != api.OK {
			t.Fatalf("%s: the file of %d is %s, error %d, not the frame of %s", what, n, brief(file), e, brief(text))
		}
	}
}

// files is that the disk has just the files of these numbers, whose texts went there.
func files(t *testing.T, what string, d *disk.Disk, want texts) {
	t.Helper()
	var names []string
	for n := range want {
		names = append(names, part(n))
	}
	slices.Sort(names)
	if got := d.Names(); !slices.Equal(got, names) {
		t.Fatalf("%s: the files %q, not %q", what, got, names)
	}
	away(t, what, d, want)
}

// all is that a store has just these texts. To be sure of them it gets each, rising.
func all(t *testing.T, what string, s *store.Store, want texts) {
	t.Helper()
	numbers(t, what, s, slices.Sorted(maps.Keys(want))...)
	for n := range api.MaxParts {
		if text, ok := want[n]; ok {
			gets(t, s, n, text)
		} else {
			fails(t, s, n, api.ErrNone)
		}
	}
}

// up turns the power of a dead disk on.
func up(t *testing.T, what string, d *disk.Disk) {
	t.Helper()
	if !d.Up() {
		t.Fatalf("%s: the disk was not dead", what)
	}
}

// oddTexts is texts of all kinds: empty, short, with all bytes, frames, and of lengths that take more bytes to say.
func oddTexts() []string {
	return []string{"", "a", "\x00", "\xff\x80\n", frame(""), frame("ab"), frame("a") + frame("b"), strings.Repeat("n", 127), strings.Repeat("m", 128), strings.Repeat("\x00\xffz", 30000)}
}
