package store_test

import (
	"slices"
	"testing"

	"cohort/api"
	"cohort/disk"
	"cohort/store"
)

// Example 1.
func TestExample(t *testing.T) {
	s, d := opened(t, 3)
	puts(t, s, 0, "ab")
	puts(t, s, 1, "cd")
	counts(t, "the example", s, 2, 1)
	files(t, "the example", d, texts{0: "ab"})
	numbers(t, "the example", s, 0, 1)
	gets(t, s, 0, "ab")
	counts(t, "0 is got", s, 2, 2)
	away(t, "0 is got", d, texts{1: "cd"})
	all(t, "the example", s, texts{0: "ab", 1: "cd"})
}

// Promise 19.1: ErrArg, if d is nil, or budget below 0.
func TestNew(t *testing.T) {
	for _, budget := range []int{-greatest - 1, -greatest, -2, -1} {
		for _, d := range []*disk.Disk{nil, disk.New()} {
			if s, e := store.New(d, budget); s != nil || e != api.ErrArg {
				t.Errorf("a disk %v, a budget of %d: a store %v, error %d", d != nil, budget, s != nil, e)
			}
		}
	}
	for _, budget := range []int{0, 1, 2, 100, greatest - 1, greatest} {
		if s, e := store.New(nil, budget); s != nil || e != api.ErrArg {
			t.Errorf("no disk, a budget of %d: a store %v, error %d", budget, s != nil, e)
		}
		s, d := opened(t, budget)
		counts(t, "at first", s, 0, 0)
		all(t, "at first", s, nil)
		drops(t, s, 0, false)
		s.Clear()
		files(t, "at first", d, nil)
		puts(t, s, 5, "some")
		all(t, "with a text", s, texts{5: "some"})
	}
}

// Promise 19.1: a store has nothing of what an earlier one put on the same disk, and writes over it. A disk without power can be given, too.
func TestNewOnUsedDisk(t *testing.T) {
	_, d := filled(t, 2, "aa", "bb", "cc")
	s, e := store.New(d, 2)
	fine(t, e)
	all(t, "another store", s, nil)
	counts(t, "another store", s, 0, 0)
	puts(t, s, 0, "xx")
	puts(t, s, 1, "yy")
	away(t, "another store", d, texts{0: "xx"})
	all(t, "another store", s, texts{0: "xx", 1: "yy"})
	d.Crash(0, 0)
	s, e = store.New(d, 2)
	fine(t, e)
	all(t, "a disk without power", s, nil)
	puts(t, s, 0, "zz")
	all(t, "a disk without power, and a text in memory", s, texts{0: "zz"})
}

// Promise 19.1: ErrArg, if the number is not 0 to MaxParts - 1, whatever the text; ErrNone, if there is no text.
func TestPutNumbers(t *testing.T) {
	s, d := opened(t, 3)
	for n := range api.MaxParts {
		fails(t, s, n, api.ErrNone)
	}
	puts(t, s, 0, "ab")
	puts(t, s, api.MaxParts-1, "c")
	for _, n := range []int{-greatest - 1, -greatest, -2, -1, api.MaxParts, api.MaxParts + 1, 100, greatest} {
		for _, text := range []string{"", "x", "long enough"} {
			if e := s.Put(n, text); e != api.ErrArg {
				t.Errorf("Put(%d, %q): error %d", n, text, e)
			}
		}
		fails(t, s, n, api.ErrNone)
		drops(t, s, n, false)
	}
	counts(t, "wrong numbers", s, 3, 0)
	files(t, "wrong numbers", d, nil)
	all(t, "wrong numbers", s, texts{0: "ab", api.MaxParts - 1: "c"})
	d.Crash(0, 0)
	if e := s.Put(-1, "x"); e != api.ErrArg {
		t.Errorf("a wrong number, and no power: error %d", e)
	}
	fails(t, s, 7, api.ErrNone)
}

// Promise 19.1: texts of all kinds, in memory and on the disk, at each number.
func TestTexts(t *testing.T) {
	for _, budget := range []int{0, 1, 5, 300, 1 << 20} {
		for i, text := range oddTexts() {
			n := i % api.MaxParts
			s, d := opened(t, budget)
			puts(t, s, n, text)
			counts(t, "one text", s, len(text), 0)
			files(t, "one text", d, nil)
			all(t, "one text", s, texts{n: text})
			long := string(make([]byte, budget+1))
			puts(t, s, 15, long)
			counts(t, "and one above the budget", s, len(long), 1)
			files(t, "and one above the budget", d, texts{n: text})
			all(t, "and one above the budget", s, texts{n: text, 15: long})
		}
	}
}

// Promise 19.1: each number has a file of its own.
func TestFiles(t *testing.T) {
	s, d := opened(t, 0)
	want := texts{}
	for n := range api.MaxParts {
		want[n] = string(rune('a' + n))
		puts(t, s, n, want[n])
	}
	counts(t, "all numbers", s, 1, api.MaxParts-1)
	gone := texts{}
	for n := range api.MaxParts - 1 {
		gone[n] = want[n]
	}
	files(t, "all numbers", d, gone)
	names := []string{"part-0", "part-1", "part-10", "part-11", "part-12", "part-13", "part-14", "part-2", "part-3", "part-4", "part-5", "part-6", "part-7", "part-8", "part-9"}
	if got := d.Names(); !slices.Equal(got, names) {
		t.Errorf("the files %q", got)
	}
	all(t, "all numbers", s, want)
}

// Promise 19.1: a number put again, in memory and on the disk, has the new text alone.
func TestPutAgain(t *testing.T) {
	s, d := filled(t, 4, "aa", "bb")
	puts(t, s, 0, "a")
	counts(t, "shorter, in memory", s, 3, 0)
	puts(t, s, 1, "")
	counts(t, "empty, in memory", s, 1, 0)
	puts(t, s, 1, "bbb")
	counts(t, "as long as may be, in memory", s, 4, 0)
	files(t, "in memory", d, nil)
	all(t, "in memory", s, texts{0: "a", 1: "bbb"})
	puts(t, s, 1, "bbbb")
	counts(t, "longer, in memory", s, 4, 1)
	files(t, "longer, in memory", d, texts{0: "a"})
	puts(t, s, 0, "AAAAAA")
	counts(t, "longer, on the disk", s, 6, 2)
	away(t, "longer, on the disk", d, texts{1: "bbbb"})
	puts(t, s, 1, "")
	counts(t, "empty, on the disk", s, 0, 3)
	away(t, "empty, on the disk", d, texts{0: "AAAAAA"})
	numbers(t, "put again", s, 0, 1)
	all(t, "put again", s, texts{0: "AAAAAA", 1: ""})
	puts(t, s, 0, "same")
	puts(t, s, 0, "same")
	all(t, "put again, the same", s, texts{0: "same", 1: ""})
}

// Promise 19.1: a nil store tells ErrArg, and nothing.
func TestNilStore(t *testing.T) {
	var s *store.Store
	for _, n := range []int{-1, 0, 1, api.MaxParts - 1, api.MaxParts, greatest} {
		if e := s.Put(n, "x"); e != api.ErrArg {
			t.Errorf("Put(%d): error %d", n, e)
		}
		fails(t, s, n, api.ErrArg)
		drops(t, s, n, false)
	}
	s.Clear()
	numbers(t, "a nil store", s)
	counts(t, "a nil store", s, 0, 0)
}

// R1: a store that no New made has no budget and no disk, and can be asked all the same.
func TestZeroStore(t *testing.T) {
	s := &store.Store{}
	all(t, "a zero store", s, nil)
	drops(t, s, 0, false)
	s.Clear()
	counts(t, "a zero store", s, 0, 0)
	puts(t, s, 3, "abc")
	if e := s.Put(4, "d"); e != api.ErrDead {
		t.Errorf("a zero store, a second text: error %d", e)
	}
	counts(t, "a zero store with a text", s, 3, 0)
	all(t, "a zero store with a text", s, texts{3: "abc"})
	drops(t, s, 3, true)
	all(t, "a zero store, behind Drop", s, nil)
}

// R4, R5: stores know nothing of one another, unless they are on one disk.
func TestTwoStores(t *testing.T) {
	a, d := filled(t, 2, "aa", "bb")
	b, other := filled(t, 4, "cc", "dd")
	puts(t, b, 2, "ee")
	files(t, "one", d, texts{0: "aa"})
	files(t, "another", other, texts{0: "cc"})
	a.Clear()
	all(t, "one", a, nil)
	all(t, "another", b, texts{0: "cc", 1: "dd", 2: "ee"})
}
