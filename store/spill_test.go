package store_test

import (
	"fmt"
	"strings"
	"testing"

	"cohort/disk"
	"cohort/store"
)

// Promise 19.1: as many bytes as the budget has may be in memory, and not one more.
func TestBudgetEdges(t *testing.T) {
	for size := range 5 {
		for many := 1; many < 6; many++ {
			for budget := range size*many + 2 {
				what := fmt.Sprintf("%d texts of %d bytes, a budget of %d", many, size, budget)
				s, d := opened(t, budget)
				want := texts{}
				for n := range many {
					want[n] = strings.Repeat(string(rune('a'+n)), size)
					puts(t, s, n, want[n])
				}
				stay := many
				for stay > 1 && stay*size > budget {
					stay--
				}
				counts(t, what, s, stay*size, many-stay)
				gone := texts{}
				for n := range many - stay {
					gone[n] = want[n]
				}
				files(t, what, d, gone)
				all(t, what, s, want)
			}
		}
	}
}

// Promise 19.1: the one that was used longest ago goes, a Put being a use, also of one that is in memory.
func TestPutIsUse(t *testing.T) {
	s, d := filled(t, 6, "aa", "bb", "cc")
	puts(t, s, 0, "AA")
	puts(t, s, 3, "dd")
	files(t, "0 was put again", d, texts{1: "bb"})
	puts(t, s, 2, "CC")
	puts(t, s, 4, "ee")
	files(t, "2 was put again", d, texts{1: "bb", 0: "AA"})
	puts(t, s, 5, "ff")
	files(t, "one more", d, texts{1: "bb", 0: "AA", 3: "dd"})
	counts(t, "one more", s, 6, 3)
	all(t, "puts", s, texts{0: "AA", 1: "bb", 2: "CC", 3: "dd", 4: "ee", 5: "ff"})
}

// Promise 19.1: a Get is a use, of one that is in memory, and of one that is on the disk.
func TestGetIsUse(t *testing.T) {
	s, d := filled(t, 6, "aa", "bb", "cc")
	gets(t, s, 0, "aa")
	counts(t, "got in memory", s, 6, 0)
	files(t, "got in memory", d, nil)
	puts(t, s, 3, "dd")
	files(t, "0 was got", d, texts{1: "bb"})
	gets(t, s, 2, "cc")
	gets(t, s, 1, "bb")
	counts(t, "got on the disk", s, 6, 2)
	away(t, "got on the disk", d, texts{0: "aa"})
	puts(t, s, 4, "ee")
	counts(t, "1 and 2 were got", s, 6, 3)
	away(t, "1 and 2 were got", d, texts{0: "aa", 3: "dd"})
	gets(t, s, 2, "cc")
	gets(t, s, 1, "bb")
	gets(t, s, 4, "ee")
	counts(t, "those in memory", s, 6, 3)
}

// Promise 19.1: other calls are no uses.
func TestNoUse(t *testing.T) {
	for name, call := range map[string]func(s *store.Store, d *disk.Disk){
		"Numbers":         func(s *store.Store, d *disk.Disk) { count(s) },
		"Used and Spills": func(s *store.Store, d *disk.Disk) { _, _ = s.Used(), s.Spills() },
		"Drop of none":    func(s *store.Store, d *disk.Disk) { s.Drop(9) },
		"Get of none":     func(s *store.Store, d *disk.Disk) { s.Get(9) },
		"a wrong Put":     func(s *store.Store, d *disk.Disk) { s.Put(-1, "x") },
		"a Put that fails": func(s *store.Store, d *disk.Disk) {
			d.Crash(0, 0)
			s.Put(0, "toolong")
			d.Up()
		},
	} {
		s, d := filled(t, 6, "aa", "bb", "cc")
		call(s, d)
		puts(t, s, 3, "dd")
		files(t, name, d, texts{0: "aa"})
		puts(t, s, 4, "ee")
		files(t, name, d, texts{0: "aa", 1: "bb"})
	}
}

// Promise 19.1: one that is longer than the budget is left alone, and others come back one by one.
func TestAboveBudget(t *testing.T) {
	s, d := filled(t, 3, "a", "b", "c")
	puts(t, s, 3, "longer")
	counts(t, "one above the budget", s, 6, 3)
	files(t, "one above the budget", d, texts{0: "a", 1: "b", 2: "c"})
	gets(t, s, 3, "longer")
	counts(t, "got again", s, 6, 3)
	puts(t, s, 3, "longest")
	counts(t, "put again", s, 7, 3)
	gets(t, s, 1, "b")
	counts(t, "another one", s, 1, 4)
	away(t, "another one", d, texts{0: "a", 2: "c", 3: "longest"})
	gets(t, s, 0, "a")
	gets(t, s, 2, "c")
	counts(t, "the short ones", s, 3, 4)
	gets(t, s, 3, "longest")
	counts(t, "the long one again", s, 7, 7)
	away(t, "the long one again", d, texts{0: "a", 1: "b", 2: "c"})
}

// Promise 19.1: no more go than must, and those that go do so in turn, empty ones too.
func TestNoMoreThanMust(t *testing.T) {
	s, d := filled(t, 10, "aaaa", "", "bb", "ccc")
	puts(t, s, 4, "d")
	counts(t, "just the budget", s, 10, 0)
	puts(t, s, 5, "e")
	counts(t, "one above", s, 7, 1)
	files(t, "one above", d, texts{0: "aaaa"})
	puts(t, s, 6, "ffff")
	counts(t, "an empty one in turn", s, 9, 3)
	files(t, "an empty one in turn", d, texts{0: "aaaa", 1: "", 2: "bb"})
	gets(t, s, 1, "")
	counts(t, "an empty one is got", s, 9, 3)
	puts(t, s, 3, "cccc")
	counts(t, "one grows within the budget", s, 10, 3)
	puts(t, s, 3, "ccccc")
	counts(t, "one grows above", s, 10, 4)
	away(t, "one grows above", d, texts{0: "aaaa", 2: "bb", 4: "d"})
	all(t, "in the end", s, texts{0: "aaaa", 1: "", 2: "bb", 3: "ccccc", 4: "d", 5: "e", 6: "ffff"})
}

// Promise 19.1: without a budget all empty texts are in memory, and one other at most.
func TestNoBudget(t *testing.T) {
	s, d := filled(t, 0, "", "", "")
	counts(t, "empty ones", s, 0, 0)
	files(t, "empty ones", d, nil)
	puts(t, s, 3, "a")
	counts(t, "one that is not", s, 1, 3)
	files(t, "one that is not", d, texts{0: "", 1: "", 2: ""})
	gets(t, s, 1, "")
	counts(t, "an empty one again", s, 0, 4)
	gets(t, s, 2, "")
	gets(t, s, 0, "")
	counts(t, "all empty ones again", s, 0, 4)
	gets(t, s, 3, "a")
	counts(t, "the other again", s, 1, 7)
}

// Promise 19.1: within the greatest budget nothing goes to the disk, which is not asked then.
func TestGreatBudget(t *testing.T) {
	s, d := opened(t, greatest)
	d.Crash(0, 0)
	want := texts{}
	for i, text := range oddTexts() {
		want[i] = text
		puts(t, s, i, text)
	}
	all(t, "a great budget", s, want)
	drops(t, s, 3, true)
	delete(want, 3)
	puts(t, s, 4, "again")
	want[4] = "again"
	all(t, "a great budget, one dropped", s, want)
	if s.Spills() != 0 || d.Changes() != 0 {
		t.Errorf("%d spills, %d changes of the disk", s.Spills(), d.Changes())
	}
}

// count is how many numbers a store tells.
func count(s *store.Store) int {
	many := 0
	for range s.Numbers() {
		many++
	}
	return many
}
