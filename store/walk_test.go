package store_test

import (
	"fmt"
	"math/rand"
	"slices"
	"strings"
	"testing"

	"cohort/api"
	"cohort/disk"
	"cohort/store"
)

// laid is a text of a model: by which call it was used last, and where it is.
type laid struct {
	n, used int
	text    string
	away    bool
}

// model is the same by another way: a list of all texts, looked through from one end to the other.
type model struct {
	budget, spills, calls int
	all                   []laid
}

func (m *model) at(n int) int {
	return slices.IndexFunc(m.all, func(x laid) bool { return x.n == n })
}

// memory is how many texts are in memory, how many bytes they have, and where the oldest stands.
func (m *model) memory() (many, bytes, oldest int) {
	oldest = -1
	for i, x := range m.all {
		if x.away {
			continue
		}
		many++
		bytes += len(x.text)
		if oldest < 0 || x.used < m.all[oldest].used {
			oldest = i
		}
	}
	return many, bytes, oldest
}

func (m *model) put(n int, text string) {
	m.drop(n)
	m.calls++
	m.all = append(m.all, laid{n: n, used: m.calls, text: text})
	for {
		many, bytes, oldest := m.memory()
		if bytes <= m.budget || many == 1 {
			return
		}
		m.all[oldest].away = true
		m.spills++
	}
}

func (m *model) get(n int) (string, api.Errno) {
	i := m.at(n)
	if i < 0 {
		return "", api.ErrNone
	}
	text := m.all[i].text
	m.put(n, text)
	return text, api.OK
}

func (m *model) drop(n int) bool {
	i := m.at(n)
	if i < 0 {
		return false
	}
	m.all = slices.Delete(m.all, i, i+1)
	return true
}

// agrees holds all that a store tells, and what is on its disk, against the model. No text is got: that would be a use.
func (m *model) agrees(t *testing.T, what string, s *store.Store, d *disk.Disk) {
	t.Helper()
	many, bytes, _ := m.memory()
	counts(t, what, s, bytes, m.spills)
	if many > 1 && bytes > m.budget {
		t.Fatalf("%s: %d texts of %d bytes are in memory, the budget is %d", what, many, bytes, m.budget)
	}
	var l []int
	gone := texts{}
	for _, x := range m.all {
		l = append(l, x.n)
		if x.away {
			gone[x.n] = x.text
		}
	}
	slices.Sort(l)
	numbers(t, what, s, l...)
	away(t, what, d, gone)
}

// both does a call of a store and of the model.
func (m *model) both(t *testing.T, what string, s *store.Store, kind, n int, text string) {
	t.Helper()
	switch kind {
	case 0:
		puts(t, s, n, text)
		m.put(n, text)
	case 1:
		want, no := m.get(n)
		if got, e := s.Get(n); got != want || e != no {
			t.Fatalf("%s: Get(%d): %s, error %d, not %s, error %d", what, n, brief(got), e, brief(want), no)
		}
	case 2:
		drops(t, s, n, m.drop(n))
	default:
		s.Clear()
		m.all = nil
	}
}

// Promises 19.1, 19.2: long walks beside the model.
func TestWalks(t *testing.T) {
	for seed := range int64(60) {
		chance := rand.New(rand.NewSource(seed))
		budget, many, long := chance.Intn(30), 1+chance.Intn(api.MaxParts), 1+chance.Intn(12)
		s, d := opened(t, budget)
		m := &model{budget: budget}
		for i := range 500 {
			what := fmt.Sprintf("seed %d, call %d", seed, i)
			kind := max(0, chance.Intn(9)-6)
			if kind == 0 {
				kind = chance.Intn(2)
			}
			if kind == 2 && chance.Intn(15) == 0 {
				kind = 3
			}
			if kind == 3 && seed%2 == 0 {
				continue
			}
			m.both(t, what, s, kind%4, chance.Intn(many), strings.Repeat(string(rune('a'+chance.Intn(26))), chance.Intn(long)))
			m.agrees(t, what, s, d)
		}
	}
}

// Promises 19.1, 19.2: all short walks of three numbers, each behind three texts, at budgets around what they need.
func TestShortWalks(t *testing.T) {
	const calls, steps = 12, 3
	for budget := range 7 {
		for way := range calls * calls * calls {
			s, d := filled(t, budget, "a", "bb", "ccc")
			m := &model{budget: budget}
			for n, text := range []string{"a", "bb", "ccc"} {
				m.put(n, text)
			}
			what := fmt.Sprintf("a budget of %d, way %d", budget, way)
			m.agrees(t, what, s, d)
			rest := way
			for range steps {
				call := rest % calls
				rest /= calls
				text := []string{"", "xy", "uvwxyz"}[call/3%3]
				m.both(t, what, s, []int{0, 0, 0, 1, 1, 1, 2, 2, 2, 0, 0, 3}[call], call%3, text)
				m.agrees(t, what, s, d)
			}
		}
	}
}

// said is all that a store tells of its texts behind the same calls, but for where they are.
func said(t *testing.T, seed int64, budget int) string {
	t.Helper()
	s, _ := opened(t, budget)
	chance := rand.New(rand.NewSource(seed))
	var b strings.Builder
	for range 300 {
		n, size := chance.Intn(9)-1, chance.Intn(20)
		switch chance.Intn(10) {
		case 0:
			fmt.Fprint(&b, s.Drop(n), " ")
		case 1, 2, 3, 4:
			fmt.Fprint(&b, s.Put(n, strings.Repeat(string(rune('a'+size)), size)), " ")
		case 5:
			fmt.Fprint(&b, slices.Collect(s.Numbers()), " ")
		case 6:
			if size == 0 {
				s.Clear()
			}
		default:
			text, e := s.Get(n)
			fmt.Fprint(&b, text, e, " ")
		}
	}
	return b.String()
}

// Promise 19.2: whatever the budget, the same calls tell the same texts.
func TestAnyBudget(t *testing.T) {
	for seed := range int64(30) {
		want := said(t, seed, greatest)
		for _, budget := range []int{0, 1, 5, 10, 19, 20, 38, 50, 100, 1000} {
			if got := said(t, seed, budget); got != want {
				t.Fatalf("seed %d, a budget of %d: %s, not %s", seed, budget, got, want)
			}
		}
	}
}

// R4: the same calls in the same order leave the same on the disk, change by change.
func TestSameAgain(t *testing.T) {
	walk := func(fall int) (string, int) {
		s, d := opened(t, 12)
		d.Plan([]api.Fall{{At: fall, Keep: fall / 2, Torn: 2}})
		for i := range 40 {
			s.Put(i*7%10, strings.Repeat("x", i%9))
			s.Get(i * 3 % 10)
			if i%13 == 12 {
				s.Clear()
			}
		}
		d.Up()
		var b strings.Builder
		for _, name := range d.Names() {
			file, _ := d.Read(name)
			b.WriteString(name + file)
		}
		return b.String(), d.Changes()
	}
	for fall := range 60 {
		a, many := walk(fall)
		for range 3 {
			if b, n := walk(fall); a != b || many != n {
				t.Fatalf("a fall at %d: %q and %d changes, then %q and %d", fall, a, many, b, n)
			}
		}
	}
}

// R2: what is handed in is as it was, and the disk's other files are.
func TestOtherFiles(t *testing.T) {
	d := disk.New()
	fine(t, d.Write("part", "1"), d.Write("part-", "2"), d.Write("part-16", "3"), d.Write("log", "4"))
	s, e := store.New(d, 2)
	fine(t, e)
	for n := range api.MaxParts {
		puts(t, s, n, "xx")
	}
	for n := range api.MaxParts {
		gets(t, s, n, "xx")
	}
	s.Clear()
	for name, want := range map[string]string{"part": "1", "part-": "2", "part-16": "3", "log": "4"} {
		if file, e := d.Read(name); file != want || e != api.OK {
			t.Errorf("%s is %q, error %d", name, file, e)
		}
	}
	if len(d.Names()) != 4 {
		t.Errorf("the files %q", d.Names())
	}
}
