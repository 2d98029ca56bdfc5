package plan_test

import (
	"fmt"
	"math/rand"
	"slices"
	"testing"

	"cohort/plan"
)

// heard is a worker that was heard of.
type heard struct {
	worker, life, tick int
}

// model is the same by another way: all that counted of a worker, in order, in a list of all workers.
type model struct {
	long int
	said []heard
}

// last is where the last word of a worker stands; -1: nowhere.
func (m *model) last(worker int) int {
	for i := len(m.said) - 1; i >= 0; i-- {
		if m.said[i].worker == worker {
			return i
		}
	}
	return -1
}

func (m *model) renew(worker, life, now int) bool {
	at := m.last(worker)
	if at < 0 {
		m.said = append(m.said, heard{worker, life, now})
		return true
	}
	before := m.said[at]
	if life < before.life || now < before.tick {
		return false
	}
	m.said = append(m.said, heard{worker, life, now})
	return life > before.life
}

func (m *model) drop(worker int) bool {
	n := len(m.said)
	m.said = slices.DeleteFunc(m.said, func(h heard) bool { return h.worker == worker })
	return len(m.said) < n
}

// those is the workers whose last word is such, rising.
func (m *model) those(such func(h heard) bool) []int {
	var l []int
	for i, h := range m.said {
		if m.last(h.worker) == i && such(h) {
			l = append(l, h.worker)
		}
	}
	slices.Sort(l)
	return l
}

// agrees holds all that leases tell against the model.
func (m *model) agrees(t *testing.T, what string, l *plan.Leases, many, now int) {
	t.Helper()
	same(t, what+": all", l.Live(), m.those(func(heard) bool { return true })...)
	for tick := now - m.long - 2; tick < now+m.long+2; tick++ {
		gone := m.those(func(h heard) bool { return tick-h.tick >= m.long })
		same(t, fmt.Sprint(what, ": gone at ", tick), l.Gone(tick), gone...)
	}
	for worker := range many {
		if at := m.last(worker); at < 0 {
			lacks(t, what, l, worker)
		} else {
			lives(t, what, l, worker, m.said[at].life)
		}
	}
}

// Promise 16.2: long walks beside the model.
func TestWalks(t *testing.T) {
	for seed := range int64(40) {
		chance := rand.New(rand.NewSource(seed))
		long, many := 1+chance.Intn(6), 1+chance.Intn(8)
		l, m := leases(t, long), &model{long: long}
		now := chance.Intn(20) - 10
		for i := range 400 {
			what := fmt.Sprint("seed ", seed, ", call ", i)
			worker := chance.Intn(many)
			if chance.Intn(6) == 0 {
				if got, want := l.Drop(worker), m.drop(worker); got != want {
					t.Fatalf("%s: dropped %v, not %v", what, got, want)
				}
			} else {
				life, tick := chance.Intn(4)+i/100, now+chance.Intn(4)-1
				if got, want := l.Renew(worker, life, tick), m.renew(worker, life, tick); got != want {
					t.Fatalf("%s: renewed %v, not %v", what, got, want)
				}
			}
			now += chance.Intn(2)
			if i%10 == 0 {
				m.agrees(t, what, l, many, now)
			}
		}
	}
}

// Promise 16.2: all short ways in which two workers may be heard of, in two lives at two ticks, and dropped.
func TestShortWalks(t *testing.T) {
	const calls, steps = 10, 4
	for way := range calls * calls * calls * calls {
		l, m := leases(t, 1), &model{long: 1}
		rest := way
		for range steps {
			call, worker := rest%calls/2, rest%2
			rest /= calls
			var got, want bool
			if call == 4 {
				got, want = l.Drop(worker), m.drop(worker)
			} else {
				got, want = l.Renew(worker, call/2, call%2), m.renew(worker, call/2, call%2)
			}
			if got != want {
				t.Fatalf("way %d: %v, not %v", way, got, want)
			}
		}
		m.agrees(t, fmt.Sprint("way ", way), l, 2, 1)
	}
}
