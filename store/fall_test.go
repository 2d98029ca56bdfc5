package store_test

import (
	"fmt"
	"math/rand"
	"strings"
	"testing"

	"cohort/api"
	"cohort/disk"
	"cohort/store"
)

// Promise 19.1: without power a Put whose text has no room tells ErrDead, and so does a Get of one on the disk; nothing is changed. What needs no disk goes on.
func TestDeadDisk(t *testing.T) {
	s, d := filled(t, 4, "aa", "bb", "cc")
	fine(t, d.Sync())
	d.Crash(0, 0)
	for range 2 {
		for n, text := range map[int]string{0: "AA", 1: "longer", 2: "ccc", 3: "d"} {
			if e := s.Put(n, text); e != api.ErrDead {
				t.Fatalf("Put(%d, %q) without power: error %d", n, text, e)
			}
		}
		fails(t, s, 0, api.ErrDead)
		fails(t, s, 3, api.ErrNone)
		counts(t, "without power", s, 4, 1)
		numbers(t, "without power", s, 0, 1, 2)
	}
	gets(t, s, 1, "bb")
	puts(t, s, 2, "c")
	puts(t, s, 4, "e")
	up(t, "up again", d)
	all(t, "up again", s, texts{0: "aa", 1: "bb", 2: "c", 4: "e"})
}

// Promise 19.1: a file that holds the text no more, torn, gone, longer or of another text, is none: ErrNone, and nothing is changed.
func TestBrokenFile(t *testing.T) {
	whole := frame("abc")
	broken := []string{"", whole[1:], whole + "x", whole + whole, "x" + whole, frame(""), frame("abd"), frame("abcd"), "abc", strings.Repeat("\xff", 20)}
	for n := 1; n < len(whole); n++ {
		broken = append(broken, whole[:n])
	}
	for n := range len(whole) * 8 {
		b := []byte(whole)
		b[n/8] ^= 1 << (n % 8)
		broken = append(broken, string(b))
	}
	for _, file := range broken {
		s, d := filled(t, 3, "abc", "def", "ghi")
		fine(t, d.Write("part-0", file))
		fails(t, s, 0, api.ErrNone)
		counts(t, brief(file), s, 3, 2)
		numbers(t, brief(file), s, 0, 1, 2)
		gets(t, s, 2, "ghi")
		fails(t, s, 0, api.ErrNone)
		fine(t, d.Write("part-0", whole))
		all(t, brief(file)+", whole again", s, texts{0: "abc", 1: "def", 2: "ghi"})
	}
	for n := range len(frame("")) {
		s, d := filled(t, 0, "", "a")
		fine(t, d.Write("part-0", frame("")[:n]))
		fails(t, s, 0, api.ErrNone)
		counts(t, "an empty text, its file cut", s, 1, 1)
	}
	s, d := filled(t, 3, "abc", "def")
	fine(t, d.Remove("part-0"))
	fails(t, s, 0, api.ErrNone)
	counts(t, "the file is gone", s, 3, 1)
	numbers(t, "the file is gone", s, 0, 1)
	puts(t, s, 0, "new")
	all(t, "put again", s, texts{0: "new", 1: "def"})
	fine(t, d.Remove("part-1"))
	drops(t, s, 1, true)
	all(t, "dropped, and its file is gone", s, texts{0: "new"})
}

// Promise 19.2: a crash may bring a file back as it was, with an older text of the same number; it is told no more.
func TestOlderFile(t *testing.T) {
	s, d := filled(t, 2, "aa", "bb")
	fine(t, d.Sync())
	puts(t, s, 0, "AA")
	puts(t, s, 1, "BB")
	away(t, "ahead of the crash", d, texts{0: "AA"})
	d.Crash(0, 0)
	up(t, "the crash", d)
	away(t, "behind the crash", d, texts{0: "aa"})
	fails(t, s, 0, api.ErrNone)
	gets(t, s, 1, "BB")
	drops(t, s, 0, true)
	puts(t, s, 2, "CC")
	d.Crash(0, 0)
	up(t, "another crash", d)
	fails(t, s, 0, api.ErrNone)
	fails(t, s, 1, api.ErrNone)
	gets(t, s, 2, "CC")
}

// Promise 19.1: where several must go, and the power fails at one of them, all is as it was, and behind Up all goes on.
func TestFallAmongSeveral(t *testing.T) {
	for at := range 3 {
		for keep := range 4 {
			for _, byPut := range []bool{true, false} {
				what := fmt.Sprintf("a fall at %d, %d kept, Put %v", at, keep, byPut)
				s, d := filled(t, 6, "longer", "aa", "bb", "cc")
				counts(t, what, s, 6, 1)
				fine(t, d.Sync())
				d.Plan([]api.Fall{{At: d.Changes() + at, Keep: keep, Torn: 2}})
				if byPut {
					if e := s.Put(4, "another"); e != api.ErrDead {
						t.Fatalf("%s: error %d", what, e)
					}
					numbers(t, what, s, 0, 1, 2, 3)
				} else {
					fails(t, s, 0, api.ErrDead)
				}
				counts(t, what, s, 6, 1)
				for n, text := range []string{"", "aa", "bb", "cc"} {
					if n > 0 {
						gets(t, s, n, text)
					}
				}
				up(t, what, d)
				counts(t, what, s, 6, 1)
				gets(t, s, 0, "longer")
				counts(t, what+", up again", s, 6, 4)
				away(t, what+", up again", d, texts{1: "aa", 2: "bb", 3: "cc"})
				all(t, what+", up again", s, texts{0: "longer", 1: "aa", 2: "bb", 3: "cc"})
			}
		}
	}
}

// step is a call of a store: what it tells is held against what was put.
type step struct {
	kind, n int
	text    string
}

// steps is calls by chance.
func steps(seed int64, many int) []step {
	chance := rand.New(rand.NewSource(seed))
	l := make([]step, many)
	for i := range l {
		n := chance.Intn(5)
		l[i] = step{chance.Intn(8), n, fmt.Sprintf("%d-%d-%s", n, i, strings.Repeat("x", chance.Intn(12)))}
	}
	return l
}

// does does a call, which may fail where the disk does. Each text that is told is the one that was put last.
func (x step) does(t *testing.T, what string, s *store.Store, d *disk.Disk, has texts) {
	t.Helper()
	switch {
	case x.kind < 4:
		switch e := s.Put(x.n, x.text); {
		case e == api.OK:
			has[x.n] = x.text
		case e != api.ErrDead || !d.Dead():
			t.Fatalf("%s: Put(%d): error %d, the disk is dead: %v", what, x.n, e, d.Dead())
		}
	case x.kind < 7:
		tells(t, what, s, d, has, x.n)
	default:
		_, there := has[x.n]
		delete(has, x.n)
		drops(t, s, x.n, there)
	}
}

// tells is that a number has the text that was put last, or an error that the disk may tell of it.
func tells(t *testing.T, what string, s *store.Store, d *disk.Disk, has texts, n int) bool {
	t.Helper()
	text, e := s.Get(n)
	want, there := has[n]
	switch {
	case e == api.OK && there && text == want:
		return true
	case e == api.OK || text != "":
		t.Fatalf("%s: Get(%d): %s, error %d, not %s, which is there: %v", what, n, brief(text), e, brief(want), there)
	case !there && e != api.ErrNone || there && e != api.ErrNone && (e != api.ErrDead || !d.Dead()):
		t.Fatalf("%s: Get(%d): error %d, it is there: %v, the disk is dead: %v", what, n, e, there, d.Dead())
	}
	return false
}

// Promises 19.1, 19.2: the power fails at each change, and so much survives: what is told is what was put last, or an error.
func TestFallAnywhere(t *testing.T) {
	for seed := range int64(12) {
		l := steps(seed, 40)
		for at := range 40 {
			for _, f := range []api.Fall{{At: at}, {At: at, Keep: at / 2, Torn: 3}, {At: at, Keep: at, Torn: 100}} {
				what := fmt.Sprintf("seed %d, a fall %+v", seed, f)
				s, d := opened(t, 15)
				d.Plan([]api.Fall{f, {At: at + 9, Torn: 1}})
				has := texts{}
				for i, x := range l {
					x.does(t, fmt.Sprintf("%s, call %d", what, i), s, d, has)
					if i%5 == 4 {
						d.Up()
					}
					if i%8 == 2 {
						d.Sync()
					}
				}
				d.Up()
				d.Plan(nil)
				ends(t, what, s, d, has)
			}
		}
	}
}

// ends is that a store on a disk with power tells no other texts than those that were put, and goes on.
func ends(t *testing.T, what string, s *store.Store, d *disk.Disk, has texts) {
	t.Helper()
	many := 0
	for n := range s.Numbers() {
		if _, ok := has[n]; !ok {
			t.Fatalf("%s: there is %d", what, n)
		}
		many++
	}
	if many != len(has) {
		t.Fatalf("%s: %d numbers, not %d", what, many, len(has))
	}
	for n := range api.MaxParts {
		if !tells(t, what, s, d, has, n) && s.Drop(n) {
			delete(has, n)
		}
	}
	puts(t, s, 9, "some more")
	has[9] = "some more"
	all(t, what, s, has)
}
