package plane_test

import (
	"fmt"
	"math"
	"testing"

	"cohort/api"
	"cohort/plane"
)

// Promise 20.2: a new one has nothing, and so has one that nobody made, which can be used as well.
func TestNewOut(t *testing.T) {
	for what, x := range map[string]*plane.Out{"a new one": plane.NewOut(), "a plain one": {}} {
		if x == nil {
			t.Fatalf("%s is nil", what)
		}
		many(t, what, x, 0)
		all(t, what, x.All())
		acks(t, what, x, 0, api.Batch{}, false)
		x.Clear()
		lays(t, what, x, 0, api.Batch{})
		many(t, what, x, 1)
		all(t, what, x.All(), going{0, api.Batch{}})
		acks(t, what, x, 0, api.Batch{}, true)
		many(t, what, x, 0)
	}
}

// Promise 20.2: a batch for each worker; another one takes its place, whatever that says.
func TestOutPut(t *testing.T) {
	x := plane.NewOut()
	a, b, c := batch(1, 2, 3, 10), batch(1, 2, 3, 20), batch(1, 2, 4, 30)
	lays(t, "one", x, 9, a)
	all(t, "one", x.All(), going{9, a})
	lays(t, "another worker", x, 5, b)
	many(t, "another worker", x, 2)
	all(t, "another worker", x.All(), going{5, b}, going{9, a})
	lays(t, "in its place", x, 9, c)
	many(t, "in its place", x, 2)
	all(t, "in its place", x.All(), going{5, b}, going{9, c})
	earlier := batch(0, 1, 3, 40)
	earlier.Job = 1
	lays(t, "an earlier one", x, 9, earlier)
	all(t, "an earlier one", x.All(), going{5, b}, going{9, earlier})
	lays(t, "an empty one", x, 5, api.Batch{Epoch: 1, Step: 2})
	all(t, "an empty one", x.All(), going{5, api.Batch{Epoch: 1, Step: 2}}, going{9, earlier})
	acks(t, "what was there ahead of it", x, 9, a, false)
	acks(t, "what is there now", x, 9, earlier, true)
	all(t, "what is there now", x.All(), going{5, api.Batch{Epoch: 1, Step: 2}})
}

// Promise 20.2: whether a batch for that worker is there, of that epoch and superstep; it goes, and nothing else.
func TestAck(t *testing.T) {
	x := plane.NewOut()
	a, b := batch(4, 6, 3, 10), batch(4, 7, 3, 20)
	lays(t, "two", x, 1, a)
	lays(t, "two", x, 2, b)
	for _, c := range []struct {
		what        string
		from        int
		epoch, step int
	}{
		{"another worker", 0, 4, 6},
		{"another worker", 3, 4, 6},
		{"the other worker's", 2, 4, 6},
		{"the other worker's", 1, 4, 7},
		{"an earlier epoch", 1, 3, 6},
		{"a later epoch", 1, 5, 6},
		{"an earlier superstep", 1, 4, 5},
		{"a later superstep", 2, 4, 8},
		{"turned round", 1, 6, 4},
		{"nothing", 1, 0, 0},
		{"any numbers", math.MinInt, math.MaxInt, math.MinInt},
	} {
		acks(t, c.what, x, c.from, batch(c.epoch, c.step, c.from, 10), false)
		all(t, c.what, x.All(), going{1, a}, going{2, b})
		many(t, c.what, x, 2)
	}
	acks(t, "the right one", x, 1, a, true)
	all(t, "the right one", x.All(), going{2, b})
	many(t, "the right one", x, 1)
	acks(t, "twice", x, 1, a, false)
	acks(t, "the other one", x, 2, b, true)
	many(t, "the other one", x, 0)
	all(t, "the other one", x.All())
	acks(t, "twice", x, 2, b, false)
	lays(t, "put again", x, 1, a)
	acks(t, "put again", x, 1, a, true)
}

// Promise 20.2: the epoch and the superstep of an acknowledgement count, and nothing else of it.
func TestAckNames(t *testing.T) {
	for _, b := range []api.Batch{
		{Epoch: 4, Step: 6},
		{Job: 9, Epoch: 4, Step: 6, From: 1},
		{Job: -1, Epoch: 4, Step: 6, From: 3, Messages: to(1, 2), Mutations: of(3)},
	} {
		x := plane.NewOut()
		lays(t, "one", x, 1, batch(4, 6, 3, 10))
		acks(t, "the worker is the one that acknowledges", x, 3, b, false)
		acks(t, "epoch and superstep", x, 1, b, true)
		many(t, "epoch and superstep", x, 0)
	}
}

// Promise 20.2: all, by workers, rising, whichever was put first.
func TestAllRising(t *testing.T) {
	workers := []int{math.MinInt, -7, -1, 0, 1, 2, 9, 10, 63, 64, math.MaxInt}
	for turn := range len(workers) {
		x := plane.NewOut()
		var want []going
		for i, worker := range workers {
			put := workers[(i*7+turn)%len(workers)]
			lays(t, "any order", x, put, batch(1, 2, 3, int64(put)))
			want = append(want, going{worker, batch(1, 2, 3, int64(worker))})
		}
		many(t, "any order", x, len(workers))
		all(t, "any order", x.All(), want...)
		all(t, "again", x.All(), want...)
	}
}

// Promise 20.2: left early behind each batch, and gone over again from the first on.
func TestAllLeftEarly(t *testing.T) {
	x := plane.NewOut()
	var want []going
	for worker := range 5 {
		lays(t, "five", x, worker, batch(1, 2, 3, int64(worker)))
		want = append(want, going{worker, batch(1, 2, 3, int64(worker))})
	}
	seq := x.All()
	for n := range len(want) + 1 {
		these(t, fmt.Sprint("left behind ", n), over(seq, n), want[:n])
		all(t, "again, whole", seq, want...)
		all(t, "asked again, whole", x.All(), want...)
	}
	n := 0
	for outer := range seq {
		for inner := range x.All() {
			if inner == outer {
				break
			}
			n++
		}
	}
	if n != 0+1+2+3+4 {
		t.Errorf("one within another one: %d batches ahead", n)
	}
	many(t, "left early", x, 5)
}

// R2: what All tells is as it was when it was called, whatever is put, acknowledged and let go meanwhile.
func TestAllStays(t *testing.T) {
	x := plane.NewOut()
	a, b, c := batch(1, 2, 3, 10), batch(1, 2, 3, 20), batch(1, 2, 3, 30)
	lays(t, "two", x, 1, a)
	lays(t, "two", x, 3, b)
	told := x.All()
	var got []going
	for worker, came := range told {
		got = append(got, going{worker, came})
		acks(t, "meanwhile", x, 4-worker, a, true)
		lays(t, "meanwhile", x, worker, c)
		lays(t, "meanwhile", x, 2, c)
	}
	these(t, "changed meanwhile", got, []going{{1, a}, {3, b}})
	all(t, "asked again", x.All(), going{2, c}, going{3, c})
	x.Clear()
	all(t, "let go", told, going{1, a}, going{3, b})
	all(t, "asked again", x.All())
}

// R2: a batch that was put, and what All tells, may be changed.
func TestOutApart(t *testing.T) {
	x := plane.NewOut()
	a := batch(1, 2, 3, 10)
	lays(t, "apart", x, 1, a)
	spoil(a.Messages, a.Mutations)
	all(t, "changed behind Put", x.All(), going{1, batch(1, 2, 3, 10)})
	b := batch(1, 2, 3, 20)
	lays(t, "apart", x, 2, b)
	seq := x.All()
	for range 2 {
		for _, told := range seq {
			spoil(told.Messages, told.Mutations)
		}
		all(t, "what was told is changed, the same gone over again", seq, going{1, batch(1, 2, 3, 10)}, going{2, b})
		all(t, "what was told is changed", x.All(), going{1, batch(1, 2, 3, 10)}, going{2, batch(1, 2, 3, 20)})
	}
	if !equal(b, batch(1, 2, 3, 20)) {
		t.Errorf("what was told shares with what was put: %v", b)
	}
}

// R2: a batch whose lists are pieces of greater ones.
func TestOutSpareRoom(t *testing.T) {
	x := plane.NewOut()
	sent, asked := to(1, 2, 3, 4), of(1, 2, 3, 4)
	lays(t, "pieces", x, 1, api.Batch{Messages: sent[:2], Mutations: asked[1:2]})
	for _, told := range over(x.All(), 1) {
		spoil(told.b.Messages, told.b.Mutations)
	}
	spoil(sent[2:], asked[2:])
	all(t, "pieces", x.All(), going{1, api.Batch{Messages: to(1, 2), Mutations: of(1, 2)[1:]}})
}

// Promise 20.2: all go, and can be put again.
func TestClear(t *testing.T) {
	x := plane.NewOut()
	for range 3 {
		for worker := range 4 {
			lays(t, "four", x, worker, batch(1, 2, 3, 10))
		}
		many(t, "four", x, 4)
		for range 2 {
			x.Clear()
			many(t, "Clear", x, 0)
			all(t, "Clear", x.All())
			acks(t, "Clear", x, 1, batch(1, 2, 3, 10), false)
		}
	}
	lays(t, "put again", x, 1, batch(1, 2, 3, 11))
	all(t, "put again", x.All(), going{1, batch(1, 2, 3, 11)})
}

// Promise 20.2: what is nil tells ErrArg, false, and nothing.
func TestNilOut(t *testing.T) {
	var x *plane.Out
	for _, worker := range []int{math.MinInt, -1, 0, 1, math.MaxInt} {
		if e := x.Put(worker, batch(1, 2, 3, 4)); e != api.ErrArg {
			t.Errorf("nil: Put for %d: error %d", worker, e)
		}
		acks(t, "nil", x, worker, batch(1, 2, 3, 4), false)
	}
	x.Clear()
	many(t, "nil", x, 0)
	all(t, "nil", x.All())
}

// R4: those that hold batches know nothing of one another.
func TestTwoOuts(t *testing.T) {
	x, y := plane.NewOut(), plane.NewOut()
	lays(t, "one", x, 1, batch(1, 2, 3, 10))
	acks(t, "another one", y, 1, batch(1, 2, 3, 10), false)
	lays(t, "another one", y, 1, batch(1, 2, 3, 20))
	x.Clear()
	all(t, "another one", y.All(), going{1, batch(1, 2, 3, 20)})
}
