package plan_test

import (
	"fmt"
	"testing"

	"cohort/api"
	"cohort/plan"
)

// Promise 16.2: ErrArg and nil, if long is not 1 to 2^20.
func TestNew(t *testing.T) {
	for _, long := range []int{least, -longest, -2, -1, 0, longest + 1, longest + 2, 2 * longest, 1 << 40, greatest} {
		if l, e := plan.New(long); l != nil || e != api.ErrArg {
			t.Errorf("leases of %d ticks: %v, error %d", long, l, e)
		}
	}
	for _, long := range []int{1, 2, 3, 10, longest - 1, longest} {
		l := leases(t, long)
		same(t, "at first", l.Live())
		same(t, "at first, at any tick", l.Gone(greatest))
		lacks(t, "at first", l, 0)
		if l.Drop(0) {
			t.Error("a lease is there at first")
		}
		renew(t, l, 3, 1, 100, true)
		ends(t, fmt.Sprint(long, " ticks"), l, 3, 100, long)
	}
}

// Promise 16.2: a worker without a lease gets one of these, and true, whatever they are.
func TestRenewFirst(t *testing.T) {
	for _, n := range []int{0, 1, -1, 5, api.MaxWorkers, least, greatest} {
		for _, life := range []int{0, 1, -1, least, greatest} {
			for _, now := range []int{0, 1, -1, least, greatest - 10} {
				l := leases(t, 10)
				lacks(t, "ahead", l, n)
				renew(t, l, n, life, now, true)
				lives(t, "behind", l, n, life)
				same(t, "behind", l.Live(), n)
				ends(t, "behind", l, n, now, 10)
			}
		}
	}
}

// Promise 16.2: the same life again: false, and the lease is of that tick.
func TestRenewSameLife(t *testing.T) {
	for _, life := range []int{-1, 0, 1, 7, least, greatest} {
		l := leases(t, 10)
		renew(t, l, 3, life, 5, true)
		for _, now := range []int{5, 6, 7, 16, 17, 1000} {
			renew(t, l, 3, life, now, false)
			lives(t, "the same life", l, 3, life)
			ends(t, "the same life", l, 3, now, 10)
			same(t, "the same life", l.Live(), 3)
		}
	}
}

// Promise 16.2: a later life: true, and the lease is of it and of that tick, at the same tick, too.
func TestRenewLaterLife(t *testing.T) {
	l := leases(t, 10)
	renew(t, l, 3, least, 5, true)
	now := 5
	for i, life := range []int{-9, -1, 0, 1, 2, 4, 100, greatest} {
		now += i % 3
		renew(t, l, 3, life, now, true)
		lives(t, "a later life", l, 3, life)
		ends(t, "a later life", l, 3, now, 10)
		renew(t, l, 3, life, now, false)
		lives(t, "a later life, again", l, 3, life)
		ends(t, "a later life, again", l, 3, now, 10)
		same(t, "a later life", l.Live(), 3)
	}
}

// Promise 16.2: an earlier life, at any tick: false, and nothing is changed.
func TestRenewEarlierLife(t *testing.T) {
	l := leases(t, 10)
	renew(t, l, 3, 6, 50, true)
	for _, life := range []int{least, -6, -1, 0, 1, 5} {
		for _, now := range []int{least, 0, 49, 50, 51, 60, 1000, greatest} {
			renew(t, l, 3, life, now, false)
			lives(t, "an earlier life", l, 3, 6)
			ends(t, "an earlier life", l, 3, 50, 10)
		}
	}
	same(t, "an earlier life", l.Live(), 3)
	renew(t, l, 3, 6, 51, false)
	ends(t, "its own life", l, 3, 51, 10)
}

// Promise 16.2: an earlier tick, in any life: false, and nothing is changed.
func TestRenewEarlierTick(t *testing.T) {
	l := leases(t, 10)
	renew(t, l, 3, 6, 50, true)
	for _, now := range []int{least, -50, -1, 0, 40, 49} {
		for _, life := range []int{least, 0, 5, 6, 7, 8, greatest} {
			renew(t, l, 3, life, now, false)
			lives(t, "an earlier tick", l, 3, 6)
			ends(t, "an earlier tick", l, 3, 50, 10)
		}
	}
	same(t, "an earlier tick", l.Live(), 3)
	renew(t, l, 3, 7, 50, true)
	lives(t, "the same tick", l, 3, 7)
}

// Promise 16.2: a lease that is over is there still, until it is dropped, and may be renewed.
func TestRenewOver(t *testing.T) {
	l := leases(t, 2)
	renew(t, l, 3, 6, 50, true)
	same(t, "over", l.Gone(52), 3)
	same(t, "over, asked again", l.Gone(52), 3)
	same(t, "over, and there", l.Live(), 3)
	lives(t, "over", l, 3, 6)
	renew(t, l, 3, 5, 60, false)
	renew(t, l, 3, 6, 60, false)
	ends(t, "renewed", l, 3, 60, 2)
	renew(t, l, 3, 7, 90, true)
	ends(t, "renewed in a later life", l, 3, 90, 2)
}

// Promise 16.2: workers know nothing of one another.
func TestRenewOthers(t *testing.T) {
	l := leases(t, 10)
	renew(t, l, 3, 6, 50, true)
	renew(t, l, -3, 1, 20, true)
	renew(t, l, 4, 2, 45, true)
	lives(t, "one", l, 3, 6)
	lives(t, "another", l, -3, 1)
	lives(t, "a third", l, 4, 2)
	renew(t, l, -3, 2, 21, true)
	renew(t, l, 4, 1, 60, false)
	lives(t, "one, behind others", l, 3, 6)
	ends(t, "one, behind others", l, 3, 50, 10)
	ends(t, "another", l, -3, 21, 10)
	ends(t, "a third", l, 4, 45, 10)
	same(t, "all", l.Live(), -3, 3, 4)
	lacks(t, "a fourth", l, 0)
}

// Promise 16.2: those whose leases were renewed long ticks ahead of now, or more, rising.
func TestGone(t *testing.T) {
	l := leases(t, 10)
	renew(t, l, 9, 1, 3, true)
	renew(t, l, 2, 1, 5, true)
	renew(t, l, -4, 1, 4, true)
	renew(t, l, 5, 1, 5, true)
	renew(t, l, 0, 1, 20, true)
	for _, c := range []struct {
		now  int
		gone []int
	}{
		{least, nil}, {-100, nil}, {0, nil}, {5, nil}, {12, nil},
		{13, []int{9}}, {14, []int{-4, 9}}, {15, []int{-4, 2, 5, 9}}, {16, []int{-4, 2, 5, 9}}, {29, []int{-4, 2, 5, 9}},
		{30, []int{-4, 0, 2, 5, 9}}, {1000, []int{-4, 0, 2, 5, 9}}, {greatest, []int{-4, 0, 2, 5, 9}},
	} {
		same(t, fmt.Sprint("gone at ", c.now), l.Gone(c.now), c.gone...)
	}
	same(t, "all, behind asking", l.Live(), -4, 0, 2, 5, 9)
	same(t, "an earlier tick, asked later", l.Gone(13), 9)
	renew(t, l, 9, 1, 6, false)
	same(t, "once one is renewed", l.Gone(15), -4, 2, 5)
	same(t, "and over again", l.Gone(16), -4, 2, 5, 9)
}

// Promise 16.2: ticks that are further apart than 64 bits with a sign can tell, and those ahead of the lease.
func TestGoneFarApart(t *testing.T) {
	for _, long := range []int{1, 10, longest} {
		l := leases(t, long)
		renew(t, l, 1, 1, least, true)
		renew(t, l, 2, 1, -1, true)
		renew(t, l, 3, 1, greatest-long+1, true)
		renew(t, l, 4, 1, greatest, true)
		renew(t, l, 5, 1, greatest-long, true)
		same(t, "at the least", l.Gone(least))
		same(t, "just ahead of the first end", l.Gone(least+long-1))
		same(t, "at the first end", l.Gone(least+long), 1)
		same(t, "ahead of 0", l.Gone(-1), 1)
		same(t, "just ahead of the second end", l.Gone(long-2), 1)
		same(t, "at the second end", l.Gone(long-1), 1, 2)
		same(t, "just ahead of the greatest", l.Gone(greatest-1), 1, 2)
		same(t, "at the greatest", l.Gone(greatest), 1, 2, 5)
	}
}

// Promise 16.2: whether there was one; it is gone then, and nothing is known of it.
func TestDrop(t *testing.T) {
	l := leases(t, 10)
	if l.Drop(3) {
		t.Error("one that never was is dropped")
	}
	renew(t, l, 3, 6, 50, true)
	renew(t, l, 1, 2, 40, true)
	for _, n := range []int{0, 2, 4, -3, -1, least, greatest} {
		if l.Drop(n) {
			t.Errorf("%d, which was not there, is dropped", n)
		}
	}
	same(t, "behind dropping those that were not there", l.Live(), 1, 3)
	if !l.Drop(3) {
		t.Error("one that is there is not dropped")
	}
	lacks(t, "dropped", l, 3)
	same(t, "the others", l.Live(), 1)
	same(t, "the others that are gone", l.Gone(greatest), 1)
	lives(t, "another", l, 1, 2)
	ends(t, "another", l, 1, 40, 10)
	if l.Drop(3) {
		t.Error("it is dropped twice")
	}
	renew(t, l, 3, 1, 2, true)
	lives(t, "in an earlier life than the one that went", l, 3, 1)
	ends(t, "at an earlier tick than the one that went", l, 3, 2, 10)
	same(t, "all", l.Live(), 1, 3)
}

// Promise 16.2: one that went may come back in the same life; there was none.
func TestDropAndBack(t *testing.T) {
	l := leases(t, 10)
	renew(t, l, 3, 6, 50, true)
	l.Drop(3)
	same(t, "nobody", l.Live())
	same(t, "nobody is gone", l.Gone(greatest))
	renew(t, l, 3, 6, 50, true)
	renew(t, l, 3, 6, 50, false)
}

// Promise 16.2: all, rising, however they came.
func TestLive(t *testing.T) {
	for _, order := range [][]int{{0, 1, 2, 3, 4}, {4, 3, 2, 1, 0}, {2, 0, 4, 1, 3}, {3, 2, 3, 4, 0, 1, 4}} {
		l := leases(t, 10)
		all := []int{least, -1, 0, 63, greatest}
		for i, n := range order {
			l.Renew(all[n], 1, i)
		}
		same(t, fmt.Sprint(order), l.Live(), all...)
		same(t, fmt.Sprint(order, " gone"), l.Gone(100), all...)
	}
}

// Promise 16.2: many workers, each of them heard of.
func TestLiveMany(t *testing.T) {
	l := leases(t, 10)
	const many = 20000
	for i := range many {
		renew(t, l, (i*7919)%many, 1, (i*7919)%many, true)
	}
	live, gone := l.Live(), l.Gone(many/2+9)
	if len(live) != many || len(gone) != many/2 {
		t.Fatalf("%d, and %d of them gone", len(live), len(gone))
	}
	for i := range many {
		if live[i] != i || i < len(gone) && gone[i] != i {
			t.Fatalf("at %d stands another one", i)
		}
	}
}

// Rule R2: what is told is the caller's own.
func TestLeasesApart(t *testing.T) {
	l := leases(t, 10)
	for n := range 4 {
		renew(t, l, n, 1, 0, true)
	}
	live, gone := l.Live(), l.Gone(50)
	clear(live)
	clear(gone)
	_, _ = append(live[:2], 9), append(gone[:2], 9)
	same(t, "all, once what was told is changed", l.Live(), 0, 1, 2, 3)
	same(t, "those gone, once what was told is changed", l.Gone(50), 0, 1, 2, 3)
	live, gone = l.Live(), l.Gone(50)
	l.Drop(1)
	renew(t, l, 8, 1, 60, true)
	renew(t, l, 2, 1, 60, false)
	same(t, "all, as they were told", live, 0, 1, 2, 3)
	same(t, "those gone, as they were told", gone, 0, 1, 2, 3)
}

// Promise 16.2: leases stand apart from other leases.
func TestTwoLeases(t *testing.T) {
	x, y := leases(t, 10), leases(t, 20)
	renew(t, x, 3, 6, 50, true)
	lacks(t, "the other", y, 3)
	renew(t, y, 3, 1, 7, true)
	lives(t, "one", x, 3, 6)
	ends(t, "one", x, 3, 50, 10)
	ends(t, "the other", y, 3, 7, 20)
	x.Drop(3)
	lives(t, "the other, behind a drop", y, 3, 1)
}

// Promise 16.2: nil leases: nothing, false, in every call.
func TestNilLeases(t *testing.T) {
	var l *plan.Leases
	for _, n := range []int{least, -1, 0, 1, greatest} {
		renew(t, l, n, 1, 1, false)
		renew(t, l, 1, n, n, false)
		lacks(t, "nil", l, n)
		same(t, "nil, gone", l.Gone(n))
		if l.Drop(n) {
			t.Error("nil leases drop one")
		}
	}
	same(t, "nil, live", l.Live())
}

// Rule R1: leases that nobody made by New panic in no call.
func TestZeroLeases(t *testing.T) {
	l := &plan.Leases{}
	lacks(t, "zero", l, 3)
	same(t, "zero, live", l.Live())
	same(t, "zero, gone", l.Gone(greatest))
	if l.Drop(3) {
		t.Error("zero leases drop one")
	}
	renew(t, l, 3, 1, 5, true)
	lives(t, "zero", l, 3, 1)
	same(t, "zero, behind a lease", l.Live(), 3)
	same(t, "zero, ahead of the lease", l.Gone(4))
}
