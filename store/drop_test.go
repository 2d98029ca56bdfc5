package store_test

import (
	"slices"
	"testing"

	"cohort/api"
)

// Promise 19.1: Drop of one in memory, of one on the disk, of none, and again.
func TestDrop(t *testing.T) {
	s, d := filled(t, 4, "aa", "bb", "cc")
	away(t, "0 is on the disk", d, texts{0: "aa"})
	drops(t, s, 3, false)
	drops(t, s, 1, true)
	counts(t, "one in memory", s, 2, 1)
	fails(t, s, 1, api.ErrNone)
	numbers(t, "one in memory", s, 0, 2)
	drops(t, s, 1, false)
	drops(t, s, 0, true)
	counts(t, "one on the disk", s, 2, 1)
	fails(t, s, 0, api.ErrNone)
	numbers(t, "one on the disk", s, 2)
	drops(t, s, 0, false)
	drops(t, s, 2, true)
	counts(t, "the last one", s, 0, 1)
	all(t, "the last one", s, nil)
	files(t, "the last one", d, nil)
}

// Promise 19.1: what was dropped takes no room, is not among those that go, and may be put again.
func TestDropMakesRoom(t *testing.T) {
	s, d := filled(t, 6, "aa", "bb", "cc")
	drops(t, s, 0, true)
	puts(t, s, 3, "dd")
	counts(t, "there is room", s, 6, 0)
	puts(t, s, 4, "ee")
	counts(t, "there is none", s, 6, 1)
	files(t, "there is none", d, texts{1: "bb"})
	puts(t, s, 0, "a")
	files(t, "put again", d, texts{1: "bb", 2: "cc"})
	counts(t, "put again", s, 5, 2)
	drops(t, s, 1, true)
	puts(t, s, 1, "B")
	counts(t, "put again, from the disk", s, 6, 2)
	all(t, "put again", s, texts{0: "a", 1: "B", 2: "cc", 3: "dd", 4: "ee"})
}

// Promise 19.1: nothing of a text that goes stays on the disk, even if it was got or put again since it went there.
func TestDropTakesFile(t *testing.T) {
	s, d := filled(t, 2, "aa", "bb", "cc", "dd")
	gets(t, s, 0, "aa")
	puts(t, s, 1, "B")
	for n := range 4 {
		drops(t, s, n, true)
	}
	files(t, "all were dropped", d, nil)
	all(t, "all were dropped", s, nil)
}

// Promise 19.1: a Drop that the disk can't follow lets the text go all the same.
func TestDropWithoutPower(t *testing.T) {
	s, d := filled(t, 2, "aa", "bb")
	fine(t, d.Sync())
	d.Crash(0, 0)
	drops(t, s, 0, true)
	drops(t, s, 0, false)
	fails(t, s, 0, api.ErrNone)
	up(t, "Drop", d)
	all(t, "up again", s, texts{1: "bb"})
	puts(t, s, 0, "AA")
	puts(t, s, 2, "cc")
	away(t, "up again", d, texts{0: "AA", 1: "bb"})
	d.Crash(0, 0)
	s.Clear()
	all(t, "Clear", s, nil)
	counts(t, "Clear", s, 0, 3)
}

// Promise 19.1: all go, those in memory and those on the disk; how often one went to the disk stays.
func TestClear(t *testing.T) {
	s, d := filled(t, 4, "aa", "bb", "cc", "dd")
	counts(t, "ahead", s, 4, 2)
	for range 2 {
		s.Clear()
		counts(t, "Clear", s, 0, 2)
		all(t, "Clear", s, nil)
		drops(t, s, 0, false)
		files(t, "Clear", d, nil)
	}
	puts(t, s, 1, "BB")
	puts(t, s, 0, "AA")
	counts(t, "put again", s, 4, 2)
	puts(t, s, 2, "C")
	counts(t, "put again, and one more", s, 3, 3)
	files(t, "put again, and one more", d, texts{1: "BB"})
	all(t, "put again, and one more", s, texts{0: "AA", 1: "BB", 2: "C"})
}

// Promise 19.1: the numbers of all that have a text, rising, wherever it is.
func TestNumbers(t *testing.T) {
	for _, budget := range []int{0, 2, 4, 100} {
		s, _ := opened(t, budget)
		numbers(t, "none", s)
		want := []int{}
		for _, n := range []int{7, 15, 0, 3, 10, 2, 14, 1} {
			puts(t, s, n, "xx")
			want = append(want, n)
			slices.Sort(want)
			numbers(t, "one more", s, want...)
			puts(t, s, n, "y")
			numbers(t, "put again", s, want...)
			gets(t, s, want[0], "y")
			numbers(t, "got", s, want...)
		}
		drops(t, s, 3, true)
		numbers(t, "dropped", s, 0, 1, 2, 7, 10, 14, 15)
	}
}

// Promise 19.1: numbers are gone over one by one, and may be left early.
func TestNumbersLeftEarly(t *testing.T) {
	s, _ := filled(t, 2, "aa", "bb", "cc", "dd")
	for many := range 5 {
		var got []int
		for n := range s.Numbers() {
			if len(got) == many {
				break
			}
			got = append(got, n)
		}
		if !slices.Equal(got, []int{0, 1, 2, 3}[:many]) {
			t.Errorf("left behind %d: %v", many, got)
		}
	}
	numbers(t, "left early", s, 0, 1, 2, 3)
}

// R2: the numbers are as they were when they were asked for, are gone over again, and the store may be changed meanwhile.
func TestNumbersStay(t *testing.T) {
	s, _ := filled(t, 2, "aa", "bb", "cc")
	told := s.Numbers()
	var got []int
	for n := range told {
		got = append(got, n)
		gets(t, s, n, []string{"aa", "bb", "cc"}[n])
		drops(t, s, n, true)
		puts(t, s, n+10, "new")
	}
	if !slices.Equal(got, []int{0, 1, 2}) {
		t.Errorf("changed meanwhile: %v", got)
	}
	s.Clear()
	if again := slices.Collect(told); !slices.Equal(again, got) {
		t.Errorf("gone over again: %v", again)
	}
	numbers(t, "asked again", s)
}
