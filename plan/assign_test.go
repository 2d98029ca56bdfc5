package plan_test

import (
	"fmt"
	"slices"
	"testing"

	"cohort/api"
	"cohort/plan"
)

// Promise 16.1, the example: Assign(3, {7, 5}): 5, 7, 5.
func TestExample(t *testing.T) {
	same(t, "the example", plan.Assign(3, []int{7, 5}), 5, 7, 5)
}

// Promise 16.1: nothing, if there are no workers, whatever parts is.
func TestAssignNobody(t *testing.T) {
	for _, parts := range []int{least, -1, 0, 1, 3, api.MaxParts, api.MaxParts + 1, greatest} {
		same(t, fmt.Sprint(parts, " parts, nil workers"), plan.Assign(parts, nil))
		same(t, fmt.Sprint(parts, " parts, no workers"), plan.Assign(parts, []int{}))
	}
}

// Promise 16.1: nothing, if parts is not 0 to MaxParts; nothing of 0 parts, too.
func TestAssignOtherParts(t *testing.T) {
	for _, workers := range [][]int{{0}, {3, 1, 2}, {-4, -4}} {
		for _, parts := range []int{least, -greatest, -api.MaxParts, -2, -1, 0, api.MaxParts + 1, api.MaxParts + 2, 1 << 40, greatest} {
			same(t, fmt.Sprint(parts, " parts of ", workers), plan.Assign(parts, workers))
		}
	}
}

// Promise 16.1: the worker of each partition, in turn, for fewer workers than partitions, as many, and more.
func TestAssignInTurn(t *testing.T) {
	for parts := 1; parts <= api.MaxParts; parts++ {
		for many := 1; many <= api.MaxParts+5; many++ {
			var workers, want []int
			for i := range many {
				workers = append(workers, 10*i)
			}
			for part := range parts {
				want = append(want, 10*(part%many))
			}
			what := fmt.Sprint(parts, " parts, ", many, " workers")
			same(t, what, plan.Assign(parts, workers), want...)
			slices.Reverse(workers)
			same(t, what+", falling", plan.Assign(parts, workers), want...)
		}
	}
	same(t, "as many as there may be", plan.Assign(api.MaxParts, []int{2, 0, 1}), 0, 1, 2, 0, 1, 2, 0, 1, 2, 0, 1, 2, 0, 1, 2, 0)
	same(t, "more workers than parts", plan.Assign(2, []int{8, 6, 4, 2}), 2, 4)
}

// Promise 16.1: in any order, some of them twice: each is counted once, rising.
func TestAssignAnyOrder(t *testing.T) {
	for _, workers := range [][]int{
		{1, 2, 3}, {1, 3, 2}, {2, 1, 3}, {2, 3, 1}, {3, 1, 2}, {3, 2, 1},
		{1, 1, 2, 3}, {3, 2, 1, 3}, {2, 3, 2, 1, 2}, {3, 3, 2, 2, 1, 1}, {1, 2, 3, 1, 2, 3},
	} {
		same(t, fmt.Sprint(workers), plan.Assign(5, workers), 1, 2, 3, 1, 2)
		same(t, fmt.Sprint(workers), plan.Assign(2, workers), 1, 2)
	}
	same(t, "one alone, often", plan.Assign(3, []int{6, 6, 6, 6}), 6, 6, 6)
}

// Promise 16.1: workers may have any numbers.
func TestAssignAnyNumbers(t *testing.T) {
	workers := []int{greatest, 0, -1, least, api.MaxWorkers, greatest, least}
	same(t, "any numbers", plan.Assign(7, workers), least, -1, 0, api.MaxWorkers, greatest, least, -1)
	same(t, "0 alone", plan.Assign(2, []int{0}), 0, 0)
	same(t, "below 0", plan.Assign(3, []int{-1, -2}), -2, -1, -2)
}

// Promise 16.1: many more workers than there may be partitions.
func TestAssignToMany(t *testing.T) {
	var workers []int
	for i := range 100000 {
		workers = append(workers, (i*7919)%100000-50)
	}
	same(t, "many", plan.Assign(4, workers), -50, -49, -48, -47)
}

// Promise 16.1: a worker's partitions, rising; nothing of one that has none.
func TestParts(t *testing.T) {
	assigned := []int{5, 7, 5, -1, 7, 5, greatest, least, 0}
	same(t, "5", plan.Parts(assigned, 5), 0, 2, 5)
	same(t, "7", plan.Parts(assigned, 7), 1, 4)
	same(t, "-1", plan.Parts(assigned, -1), 3)
	same(t, "the greatest", plan.Parts(assigned, greatest), 6)
	same(t, "the least", plan.Parts(assigned, least), 7)
	same(t, "0", plan.Parts(assigned, 0), 8)
	for _, worker := range []int{1, 6, 8, -5, -7, greatest - 1, least + 1} {
		same(t, fmt.Sprint(worker, ", that has none"), plan.Parts(assigned, worker))
	}
	same(t, "all", plan.Parts([]int{2, 2, 2}, 2), 0, 1, 2)
	for _, worker := range []int{0, 1, -1} {
		same(t, "of nil", plan.Parts(nil, worker))
		same(t, "of nothing", plan.Parts([]int{}, worker))
	}
	same(t, "more than there may be", plan.Parts(make([]int, api.MaxParts+2), 0), 0, 1, 2, 3, 4, 5, 6, 7, 8, 9, 10, 11, 12, 13, 14, 15, 16, 17)
}

// Promise 16.1: all workers, rising, each once.
func TestWorkers(t *testing.T) {
	same(t, "nil", plan.Workers(nil))
	same(t, "nothing", plan.Workers([]int{}))
	same(t, "one", plan.Workers([]int{4}), 4)
	same(t, "one, often", plan.Workers([]int{4, 4, 4}), 4)
	same(t, "0 alone", plan.Workers([]int{0, 0}), 0)
	same(t, "in turn", plan.Workers([]int{5, 7, 5, 7}), 5, 7)
	same(t, "falling", plan.Workers([]int{3, 2, 1}), 1, 2, 3)
	same(t, "any", plan.Workers([]int{9, -1, greatest, 0, 9, least, -1, 0, greatest}), least, -1, 0, 9, greatest)
}

// Promise 16.1: each partition is of just one worker, by all three calls; none has two partitions more than another.
func TestTogether(t *testing.T) {
	for parts := 0; parts <= api.MaxParts; parts++ {
		for many := 1; many <= api.MaxParts+2; many++ {
			var workers []int
			for i := range many {
				workers = append(workers, (i*5)%many-2, 40-i)
			}
			assigned := plan.Assign(parts, workers)
			if len(assigned) != parts {
				t.Fatalf("%d parts of %v: %v", parts, workers, assigned)
			}
			all := plan.Workers(workers)
			var seen []int
			for i, worker := range all {
				has := plan.Parts(assigned, worker)
				seen = append(seen, has...)
				if want := (parts + len(all) - 1 - i) / len(all); len(has) != want {
					t.Errorf("%d parts of %v: %d has %v, not %d", parts, workers, worker, has, want)
				}
			}
			slices.Sort(seen)
			for part := range parts {
				if len(seen) != parts || seen[part] != part {
					t.Fatalf("%d parts of %v: %v", parts, workers, seen)
				}
			}
			same(t, "those that have some", plan.Workers(assigned), all[:min(parts, len(all))]...)
		}
	}
}

// Rule R2: what is handed in is as it was, and what is told is the caller's own.
func TestListsApart(t *testing.T) {
	handed := []int{7, 5, 9, 5, 7, 1}
	was := slices.Clone(handed)
	assigned, parts, workers := plan.Assign(4, handed), plan.Parts(handed, 5), plan.Workers(handed)
	same(t, "what was handed in", handed, was...)
	clear(handed)
	same(t, "Assign, once that is changed", assigned, 1, 5, 7, 9)
	same(t, "Parts, once that is changed", parts, 1, 3)
	same(t, "Workers, once that is changed", workers, 1, 5, 7, 9)

	rising := []int{1, 2, 3}
	for _, l := range [][]int{plan.Assign(3, rising), plan.Workers(rising)} {
		same(t, "the same as what was handed in", l, 1, 2, 3)
		clear(l)
		_ = append(l[:0], 8, 8, 8)
		same(t, "what was handed in, once what was told is changed", rising, 1, 2, 3)
	}
	cut := []int{2, 1, 2, 6, 7}
	_ = append(plan.Assign(3, cut[:3]), 8, 8)
	_ = append(plan.Workers(cut[:3]), 8, 8)
	_ = append(plan.Parts(cut[:3], 2), 8, 8)
	same(t, "what is behind what was handed in", cut, 2, 1, 2, 6, 7)
}
