package plane_test

import (
	"math"
	"slices"
	"testing"

	"cohort/api"
	"cohort/plane"
)

// Example 1.
func TestExample(t *testing.T) {
	x := plane.NewIn()
	puts(t, "the example", x, batch(1, 2, 3, 4), true)
	puts(t, "the example", x, batch(1, 2, 3, 4), false)
	many(t, "the example", x, 1)
}

// Promise 20.1: a new one has nothing, and so has one that nobody made, which can be used as well.
func TestNewIn(t *testing.T) {
	for what, x := range map[string]*plane.In{"a new one": plane.NewIn(), "a plain one": {}} {
		if x == nil {
			t.Fatalf("%s is nil", what)
		}
		many(t, what, x, 0)
		has(t, what, x, 0, 0, 0, false)
		takes(t, what, x, 0, 0)
		drops(t, what, x, math.MaxInt, 0)
		puts(t, what, x, api.Batch{}, true)
		puts(t, what, x, api.Batch{}, false)
		has(t, what, x, 0, 0, 0, true)
		many(t, what, x, 1)
		takes(t, what, x, 0, 0)
		many(t, what, x, 0)
	}
}

// Promise 20.1: whether it is the first one of its epoch, superstep and worker.
func TestInPut(t *testing.T) {
	x := plane.NewIn()
	l := []api.Batch{batch(1, 2, 3, 10), batch(1, 2, 4, 20), batch(1, 3, 3, 30), batch(2, 2, 3, 40), batch(3, 1, 2, 50), batch(2, 3, 1, 60), batch(2, 1, 3, 70)}
	for i, b := range l {
		has(t, "ahead of it", x, b.Epoch, b.Step, b.From, false)
		puts(t, "once", x, b, true)
		many(t, "once", x, i+1)
		for _, c := range l[:i+1] {
			has(t, "behind it", x, c.Epoch, c.Step, c.From, true)
			puts(t, "twice", x, c, false)
		}
		many(t, "twice", x, i+1)
	}
	has(t, "another epoch", x, 3, 2, 3, false)
	has(t, "another superstep", x, 1, 4, 3, false)
	has(t, "another worker", x, 1, 2, 5, false)
	takes(t, "two workers", x, 1, 2, l[0], l[1])
	takes(t, "another superstep", x, 1, 3, l[2])
	takes(t, "another epoch", x, 2, 2, l[3])
	takes(t, "turned round", x, 3, 1, l[4])
	takes(t, "turned round", x, 2, 3, l[5])
	takes(t, "turned round", x, 2, 1, l[6])
	many(t, "all are taken", x, 0)
}

// Promise 20.1: another batch of the same epoch, superstep and worker changes nothing, whatever it says.
func TestInPutAnother(t *testing.T) {
	x := plane.NewIn()
	b := batch(1, 2, 3, 10)
	puts(t, "the first one", x, b, true)
	otherJob := deep(b)
	otherJob.Job = 9
	longer := deep(b)
	longer.Messages = append(longer.Messages, to(1, 2)...)
	longer.Mutations = append(longer.Mutations, of(1, 2)...)
	for _, c := range []api.Batch{batch(1, 2, 3, 11), otherJob, longer, {Epoch: 1, Step: 2, From: 3}} {
		puts(t, "another one", x, c, false)
		many(t, "another one", x, 1)
		has(t, "another one", x, 1, 2, 3, true)
	}
	takes(t, "the first one", x, 1, 2, b)
	empty := api.Batch{Job: 3, Epoch: 1, Step: 2, From: 3}
	puts(t, "an empty one", x, empty, true)
	puts(t, "behind an empty one", x, b, false)
	takes(t, "an empty one", x, 1, 2)
	many(t, "an empty one", x, 0)
}

// Promise 20.1: any numbers may be an epoch, a superstep and a worker.
func TestInAnyNumbers(t *testing.T) {
	numbers := []int{math.MinInt, math.MinInt + 1, -1, 0, 1, math.MaxInt - 1, math.MaxInt}
	x := plane.NewIn()
	n := 0
	for _, epoch := range numbers {
		for _, step := range numbers {
			for _, from := range numbers {
				has(t, "any numbers", x, epoch, step, from, false)
				puts(t, "any numbers", x, batch(epoch, step, from, int64(n)), true)
				n++
				many(t, "any numbers", x, n)
			}
		}
	}
	n = 0
	for _, epoch := range numbers {
		for _, step := range numbers {
			var want []api.Batch
			for _, from := range numbers {
				has(t, "any numbers", x, epoch, step, from, true)
				want = append(want, batch(epoch, step, from, int64(n)))
				n++
			}
			takes(t, "any numbers", x, epoch, step, want...)
			takes(t, "any numbers, again", x, epoch, step)
		}
	}
	many(t, "any numbers", x, 0)
}

// Promise 20.1: by the workers that they came from, whichever came first; each one's in its order.
func TestTakeOrder(t *testing.T) {
	l := []api.Batch{batch(1, 2, -5, 1), batch(1, 2, 0, 2), batch(1, 2, 7, 3), batch(1, 2, 63, 4)}
	l[1].Messages, l[1].Mutations = to(9, 3, 9, -4, 3), of(2, 1, 2)
	l[2].Messages = nil
	l[3].Mutations = []api.Mutation{}
	for _, order := range [][]int{{0, 1, 2, 3}, {3, 2, 1, 0}, {2, 0, 3, 1}, {1, 3, 0, 2}, {3, 0, 1, 2}} {
		x := plane.NewIn()
		for _, i := range order {
			puts(t, "in any order", x, l[i], true)
		}
		takes(t, "in any order", x, 1, 2, l...)
		many(t, "in any order", x, 0)
	}
}

// Promise 20.1: as many workers as there may be.
func TestTakeAllWorkers(t *testing.T) {
	x := plane.NewIn()
	var want []api.Batch
	for worker := range api.MaxWorkers {
		came := worker * 37 % api.MaxWorkers
		puts(t, "all workers", x, batch(1, 0, came, int64(came)), true)
		want = append(want, batch(1, 0, worker, int64(worker)))
	}
	takes(t, "all workers", x, 1, 0, want...)
}

// Promise 20.1: what is taken goes, and can be put again; nothing else goes.
func TestTakeGoes(t *testing.T) {
	x := plane.NewIn()
	puts(t, "this superstep", x, batch(1, 2, 3, 10), true)
	puts(t, "the next one", x, batch(1, 3, 3, 20), true)
	puts(t, "the next epoch", x, batch(2, 2, 3, 30), true)
	takes(t, "none of this epoch", x, 0, 2)
	takes(t, "none of this superstep", x, 1, 1)
	takes(t, "turned round", x, 2, 1)
	many(t, "nothing was taken", x, 3)
	takes(t, "this superstep", x, 1, 2, batch(1, 2, 3, 10))
	has(t, "taken", x, 1, 2, 3, false)
	has(t, "the next one", x, 1, 3, 3, true)
	has(t, "the next epoch", x, 2, 2, 3, true)
	many(t, "taken", x, 2)
	takes(t, "taken, again", x, 1, 2)
	many(t, "taken, again", x, 2)
	puts(t, "put again", x, batch(1, 2, 3, 11), true)
	puts(t, "put again, twice", x, batch(1, 2, 3, 12), false)
	has(t, "put again", x, 1, 2, 3, true)
	takes(t, "put again", x, 1, 2, batch(1, 2, 3, 11))
	takes(t, "the next one", x, 1, 3, batch(1, 3, 3, 20))
	takes(t, "the next epoch", x, 2, 2, batch(2, 2, 3, 30))
	many(t, "all are taken", x, 0)
}

// Promise 20.1: where nothing is, Take has nothing, and no lists.
func TestTakeNone(t *testing.T) {
	x := plane.NewIn()
	puts(t, "one", x, batch(1, 2, 3, 10), true)
	for _, at := range [][2]int{{0, 0}, {1, 1}, {1, 3}, {0, 2}, {2, 2}, {2, 1}, {math.MinInt, math.MaxInt}} {
		if sent, asked := x.Take(at[0], at[1]); sent != nil || asked != nil {
			t.Errorf("Take%v: %v and %v", at, sent, asked)
		}
	}
	many(t, "one", x, 1)
	takes(t, "one", x, 1, 2, batch(1, 2, 3, 10))
}

// Promise 20.1: those of epochs below one go, whatever their supersteps and workers: how many.
func TestDrop(t *testing.T) {
	filled := func() *plane.In {
		x := plane.NewIn()
		for _, epoch := range []int{3, 1, -2, 5} {
			for step := range 2 {
				for from := range epoch + 3 {
					puts(t, "filled", x, batch(epoch, step, from, 1), true)
				}
			}
		}
		many(t, "filled", x, 38)
		return x
	}
	for _, c := range []struct{ epoch, gone int }{
		{math.MinInt, 0}, {-3, 0}, {-2, 0}, {-1, 2}, {0, 2}, {1, 2}, {2, 10}, {3, 10}, {4, 22}, {5, 22}, {6, 38}, {math.MaxInt, 38},
	} {
		x := filled()
		drops(t, "some", x, c.epoch, c.gone)
		many(t, "some", x, 38-c.gone)
		for _, epoch := range []int{-2, 1, 3, 5} {
			has(t, "some", x, epoch, 0, 0, epoch >= c.epoch)
			has(t, "some", x, epoch, 1, epoch+2, epoch >= c.epoch)
		}
		drops(t, "again", x, c.epoch, 0)
		many(t, "again", x, 38-c.gone)
		takes(t, "of an epoch that stays, or none", x, 5, 7)
	}
	x := filled()
	drops(t, "two epochs", x, 2, 10)
	takes(t, "dropped", x, 1, 1)
	takes(t, "dropped", x, -2, 0)
	puts(t, "put again", x, batch(1, 1, 0, 9), true)
	puts(t, "put again, twice", x, batch(1, 1, 0, 8), false)
	many(t, "put again", x, 29)
	takes(t, "put again", x, 1, 1, batch(1, 1, 0, 9))
	drops(t, "the rest", x, 6, 28)
	many(t, "the rest", x, 0)
}

// Promise 20.1: the greatest epoch is below none; what was taken is not counted.
func TestDropEdges(t *testing.T) {
	x := plane.NewIn()
	puts(t, "the greatest", x, batch(math.MaxInt, 0, 0, 1), true)
	puts(t, "the least", x, batch(math.MinInt, 0, 0, 2), true)
	puts(t, "taken", x, batch(0, 0, 0, 3), true)
	takes(t, "taken", x, 0, 0, batch(0, 0, 0, 3))
	drops(t, "below the least", x, math.MinInt, 0)
	drops(t, "below the greatest", x, math.MaxInt, 1)
	has(t, "the greatest", x, math.MaxInt, 0, 0, true)
	takes(t, "the greatest", x, math.MaxInt, 0, batch(math.MaxInt, 0, 0, 1))
}

// R2: a batch that was put, and what was taken, may be changed.
func TestInApart(t *testing.T) {
	x := plane.NewIn()
	a, b := batch(1, 2, 3, 10), batch(1, 2, 4, 20)
	puts(t, "apart", x, a, true)
	puts(t, "apart", x, b, true)
	spoil(a.Messages, a.Mutations)
	puts(t, "told again, changed", x, a, false)
	spoil(b.Messages, b.Mutations)
	sent, asked := x.Take(1, 2)
	wantSent := append(batch(1, 2, 3, 10).Messages, batch(1, 2, 4, 20).Messages...)
	wantAsked := append(batch(1, 2, 3, 10).Mutations, batch(1, 2, 4, 20).Mutations...)
	if !slices.Equal(sent, wantSent) || !slices.Equal(asked, wantAsked) {
		t.Fatalf("changed behind Put: %v and %v", sent, asked)
	}
	c := batch(1, 3, 3, 30)
	puts(t, "one alone", x, c, true)
	sent, asked = x.Take(1, 3)
	spoil(sent, asked)
	if !equal(c, batch(1, 3, 3, 30)) {
		t.Errorf("what was taken shares with what was put: %v", c)
	}
	puts(t, "put again", x, c, true)
	takes(t, "put again", x, 1, 3, c)
}

// R2: of a batch whose list has spare room, or is a piece of a greater one, nothing beyond it counts.
func TestInSpareRoom(t *testing.T) {
	x := plane.NewIn()
	sent, asked := to(1, 2, 3, 4), of(1, 2, 3, 4)
	b := api.Batch{Epoch: 1, From: 1, Messages: sent[1:2], Mutations: asked[:2]}
	c := api.Batch{Epoch: 1, From: 2, Messages: sent[2:3], Mutations: asked[1:3]}
	puts(t, "pieces", x, b, true)
	puts(t, "pieces", x, c, true)
	takes(t, "pieces", x, 1, 0, b, c)
	if !slices.Equal(sent, to(1, 2, 3, 4)) || !slices.Equal(asked, of(1, 2, 3, 4)) {
		t.Errorf("the greater ones are %v and %v", sent, asked)
	}
}

// Promise 20.1: what is nil tells false, and nothing.
func TestNilIn(t *testing.T) {
	var x *plane.In
	for range 2 {
		puts(t, "nil", x, batch(1, 2, 3, 4), false)
		has(t, "nil", x, 1, 2, 3, false)
		many(t, "nil", x, 0)
		if sent, asked := x.Take(1, 2); sent != nil || asked != nil {
			t.Errorf("nil: Take: %v and %v", sent, asked)
		}
		drops(t, "nil", x, math.MaxInt, 0)
	}
}

// R4: those that hold batches know nothing of one another.
func TestTwoIns(t *testing.T) {
	x, y := plane.NewIn(), plane.NewIn()
	puts(t, "one", x, batch(1, 2, 3, 10), true)
	has(t, "another one", y, 1, 2, 3, false)
	puts(t, "another one", y, batch(1, 2, 3, 20), true)
	drops(t, "one", x, 2, 1)
	takes(t, "another one", y, 1, 2, batch(1, 2, 3, 20))
}
