package plan_test

import (
	"math"
	"slices"
	"testing"

	"cohort/api"
	"cohort/plan"
)

const (
	least    = math.MinInt
	greatest = math.MaxInt
	longest  = 1 << 20 // the most ticks that a lease may last
)

// same holds a list against what it must be; one that is empty and one that is nil are the same.
func same(t *testing.T, what string, got []int, want ...int) {
	t.Helper()
	if !slices.Equal(got, want) {
		t.Errorf("%s: %v, not %v", what, got, want)
	}
}

// leases is leases of so many ticks, which may be.
func leases(t *testing.T, long int) *plan.Leases {
	t.Helper()
	l, e := plan.New(long)
	if l == nil || e != api.OK {
		t.Fatalf("leases of %d ticks: %v, error %d", long, l, e)
	}
	return l
}

// renew renews a lease, and holds what is told against what it must be.
func renew(t *testing.T, l *plan.Leases, worker, life, now int, want bool) {
	t.Helper()
	if got := l.Renew(worker, life, now); got != want {
		t.Errorf("worker %d in life %d at tick %d: %v, not %v", worker, life, now, got, want)
	}
}

// lives tells whether a worker has a lease of a life.
func lives(t *testing.T, what string, l *plan.Leases, worker, life int) {
	t.Helper()
	if got, ok := l.Life(worker); !ok || got != life {
		t.Errorf("%s: worker %d is in life %d, %v, not in life %d", what, worker, got, ok, life)
	}
}

// lacks tells whether a worker has no lease.
func lacks(t *testing.T, what string, l *plan.Leases, worker int) {
	t.Helper()
	if got, ok := l.Life(worker); ok || got != 0 {
		t.Errorf("%s: worker %d is in life %d, %v", what, worker, got, ok)
	}
	if slices.Contains(l.Live(), worker) {
		t.Errorf("%s: worker %d is among %v", what, worker, l.Live())
	}
}

// ends tells whether a worker's lease, of so many ticks, was renewed at that tick: it is gone behind them, and not ahead.
func ends(t *testing.T, what string, l *plan.Leases, worker, tick, long int) {
	t.Helper()
	if slices.Contains(l.Gone(tick+long-1), worker) {
		t.Errorf("%s: worker %d is gone ahead of tick %d", what, worker, tick+long)
	}
	if !slices.Contains(l.Gone(tick+long), worker) {
		t.Errorf("%s: worker %d is not gone at tick %d", what, worker, tick+long)
	}
}
