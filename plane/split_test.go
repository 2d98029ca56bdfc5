package plane_test

import (
	"fmt"
	"math"
	"math/rand"
	"slices"
	"testing"

	"cohort/api"
	"cohort/plane"
)

// task is a task of a job, an epoch and a superstep, in which partitions are those of workers. What it has besides says other things of partitions.
func task(assigned ...int) api.Task {
	return api.Task{Job: 4, Epoch: 5, Step: 6, Phase: api.PhaseCompute, Parts: []int{1}, Assigned: assigned, Spec: api.Job{Parts: 3}, Many: 2, From: 8, FromEpoch: 9}
}

// bound is a batch of that task, and the worker that it goes to.
func bound(worker, from int, sent []api.Message, asked []api.Mutation) going {
	return going{worker, api.Batch{Job: 4, Epoch: 5, Step: 6, From: from, Messages: sent, Mutations: asked}}
}

// only is those of a list that stand at these places.
func only[T any](l []T, places ...int) []T {
	var some []T
	for _, i := range places {
		some = append(some, l[i])
	}
	return some
}

// Promise 20.1: one worker, with one partition and with several: all go to it, in their order.
func TestSplitOneWorker(t *testing.T) {
	sent, asked := to(5, -1, 0, 5, 2, greatest, 1, least), of(3, 3, -9, 0, least, greatest)
	for parts := 1; parts <= api.MaxParts; parts++ {
		for _, worker := range []int{0, 7, api.MaxWorkers - 1} {
			x := task(slices.Repeat([]int{worker}, parts)...)
			what := fmt.Sprint(parts, " partitions of ", worker)
			all(t, what, plane.Split(x, worker, sent, asked), bound(worker, worker, sent, asked))
			all(t, what+", from another one", plane.Split(x, 33, sent, asked), bound(worker, 33, sent, asked))
		}
	}
}

// Promise 20.1: several workers, one of them with two partitions: what is of one of its partitions, in order, vertices below 0 and the greatest ones, too.
func TestSplitSeveralWorkers(t *testing.T) {
	x := task(7, 9, 7, 5)
	sent := to(3, -1, 0, 2, 1, -4, -2, -3, greatest, least, greatest-1, least+1, 0, 3)
	asked := of(least+1, 2, greatest, 1, least, -1, 3, 0, 0, -2, -3)
	want := []going{
		bound(5, 7, only(sent, 0, 1, 8, 13), only(asked, 2, 5, 6)),
		bound(7, 7, only(sent, 2, 3, 5, 6, 9, 10, 12), only(asked, 1, 4, 7, 8, 9)),
		bound(9, 7, only(sent, 4, 7, 11), only(asked, 0, 3, 10)),
	}
	all(t, "four partitions of three", plane.Split(x, 7, sent, asked), want...)
	x = task(2, 1, 0)
	sent, asked = to(-1, -2, -3, -4, 0, 1, 2, 3, greatest, least), of(3, 2, 1, 0, -1, -2, -3, least, greatest)
	want = []going{
		bound(0, 1, only(sent, 0, 3, 6), only(asked, 1, 4)),
		bound(1, 1, only(sent, 1, 5, 8, 9), only(asked, 2, 5, 7, 8)),
		bound(2, 1, only(sent, 2, 4, 7), only(asked, 0, 3, 6)),
	}
	all(t, "three partitions of three", plane.Split(x, 1, sent, asked), want...)
}

// Promise 20.1: To of a message counts, not From; ID of a request counts, not To.
func TestSplitByEnds(t *testing.T) {
	x := task(0, 1)
	sent := []api.Message{{From: 1, To: 0, At: 1, V: 1}, {From: 0, To: 1, At: 0, V: 0}}
	asked := []api.Mutation{{Kind: api.MutAddEdge, ID: 0, To: 1, V: 1}, {Kind: api.MutRemoveEdge, ID: 1, To: 0}}
	all(t, "ends", plane.Split(x, 0, sent, asked), bound(0, 0, sent[:1], asked[:1]), bound(1, 0, sent[1:], asked[1:]))
}

// Promise 20.1: each worker that has partitions gets its batch, also where nothing goes to it.
func TestSplitNothing(t *testing.T) {
	x := task(4, 2, 4)
	for _, sent := range [][]api.Message{nil, {}} {
		for _, asked := range [][]api.Mutation{nil, {}} {
			all(t, "nothing", plane.Split(x, 2, sent, asked), bound(2, 2, nil, nil), bound(4, 2, nil, nil))
		}
	}
	sent, asked := to(0, 3, 2, -1), of(1, 4, -2)
	all(t, "messages alone, to one", plane.Split(x, 2, sent, nil), bound(2, 2, nil, nil), bound(4, 2, sent, nil))
	all(t, "requests alone, of one", plane.Split(x, 4, nil, asked), bound(2, 4, nil, asked), bound(4, 4, nil, nil))
	all(t, "messages to one, requests of another one", plane.Split(x, 2, sent, asked), bound(2, 2, nil, asked), bound(4, 2, sent, nil))
}

// Promise 20.1: a worker without partitions gets no batch, the one that sends neither; a task without partitions has none at all.
func TestSplitWithoutPartitions(t *testing.T) {
	sent, asked := to(0, 1, 2, -1), of(0, 1, 2, -1)
	for from := -1; from < 6; from++ {
		all(t, fmt.Sprint("from ", from), plane.Split(task(3), from, sent, asked), bound(3, from, sent, asked))
		for _, assigned := range [][]int{nil, {}} {
			all(t, "no partitions", plane.Split(task(assigned...), from, sent, asked))
			all(t, "no partitions, and nothing", plane.Split(task(assigned...), from, nil, nil))
		}
	}
	all(t, "no task", plane.Split(api.Task{}, 0, sent, asked))
}

// Promise 20.1: the job, epoch and superstep of each batch are the task's, and the sender is the one that is told.
func TestSplitNames(t *testing.T) {
	numbers := []int{math.MinInt, -1, 0, 1, 2, 70, math.MaxInt}
	for _, job := range numbers {
		for _, epoch := range numbers {
			for _, step := range numbers {
				for _, from := range numbers {
					x := task(1, 0)
					x.Job, x.Epoch, x.Step = job, epoch, step
					b := api.Batch{Job: job, Epoch: epoch, Step: step, From: from}
					all(t, "names", plane.Split(x, from, nil, nil), going{0, b}, going{1, b})
				}
			}
		}
	}
}

// Promise 20.1: workers rise, each is there once, whatever their numbers and their partitions' order.
func TestSplitRising(t *testing.T) {
	x := task(math.MaxInt, 0, -1, math.MinInt, 63, 0, math.MaxInt, -1)
	sent := to(0, 1, 2, 3, 4, 5, 6, 7)
	all(t, "any numbers", plane.Split(x, 0, sent, nil),
		bound(math.MinInt, 0, only(sent, 3), nil),
		bound(-1, 0, only(sent, 2, 7), nil),
		bound(0, 0, only(sent, 1, 5), nil),
		bound(63, 0, only(sent, 4), nil),
		bound(math.MaxInt, 0, only(sent, 0, 6), nil))
}

// Promise 20.1: left early behind each batch, and gone over again from the first on.
func TestSplitLeftEarly(t *testing.T) {
	sent, asked := to(0, 1, 2, 3, 4, 5), of(5, 4, 3, 2, 1, 0)
	seq := plane.Split(task(8, 6, 4, 2, 0), 4, sent, asked)
	want := over(seq, math.MaxInt)
	if len(want) != 5 {
		t.Fatalf("%d batches", len(want))
	}
	for n := range len(want) + 1 {
		these(t, fmt.Sprint("left behind ", n), over(seq, n), want[:n])
		all(t, "again, whole", seq, want...)
	}
	n := 0
	for outer := range seq {
		for inner := range seq {
			if inner == outer {
				break
			}
			n++
		}
	}
	if n != 0+1+2+3+4 {
		t.Errorf("one within another one: %d batches ahead", n)
	}
}

// R2: what is handed in is as it was, and may be changed later; what is told is the caller's own.
func TestSplitApart(t *testing.T) {
	x := task(1, 0, 1)
	sent, asked := to(0, 1, 2, 3), of(0, 1, 2, 3)
	wasSent, wasAsked := slices.Clone(sent), slices.Clone(asked)
	want := []going{
		bound(0, 1, only(wasSent, 1), only(wasAsked, 1)),
		bound(1, 1, only(wasSent, 0, 2, 3), only(wasAsked, 0, 2, 3)),
	}
	seq := plane.Split(x, 1, sent, asked)
	all(t, "at first", seq, want...)
	if !slices.Equal(sent, wasSent) || !slices.Equal(asked, wasAsked) || !slices.Equal(x.Assigned, []int{1, 0, 1}) || !slices.Equal(x.Parts, []int{1}) {
		t.Fatalf("what was handed in is %v, %v, %v", sent, asked, x)
	}
	for _, g := range over(seq, math.MaxInt) {
		spoil(g.b.Messages, g.b.Mutations)
	}
	if !slices.Equal(sent, wasSent) || !slices.Equal(asked, wasAsked) {
		t.Fatal("what was told shares with what was handed in")
	}
	all(t, "what was told is changed", seq, want...)
	var told []going
	for worker, b := range seq {
		told = append(told, going{worker, b})
		spoil(sent, asked)
		x.Assigned[0], x.Assigned[1], x.Assigned[2] = 5, 5, 5
	}
	these(t, "changed meanwhile", told, want)
	all(t, "changed ahead", seq, want...)
}

// R2: no two batches share a list's room.
func TestSplitOwnRoom(t *testing.T) {
	sent, asked := to(0, 1, 0, 1, 0, 1, 0), of(1, 0, 1, 0, 1)
	seq := plane.Split(task(0, 1), 0, sent, asked)
	a, b := over(seq, math.MaxInt), over(seq, math.MaxInt)
	want := []going{bound(0, 0, only(sent, 0, 2, 4, 6), only(asked, 1, 3)), bound(1, 0, only(sent, 1, 3, 5), only(asked, 0, 2, 4))}
	spoil(a[0].b.Messages, a[0].b.Mutations)
	these(t, "the other one", a[1:], want[1:])
	these(t, "the same, gone over again", b, want)
}

// rest is a number modulo parts, from 0 on, by steps that keep within 64 bits.
func rest(id int64, parts int) int {
	r := int(id % int64(parts))
	return (r + parts) % parts
}

// Promise 20.1: against a second definition, over partitions and workers as they come.
func TestSplitMany(t *testing.T) {
	for seed := range int64(300) {
		chance := rand.New(rand.NewSource(seed))
		assigned := make([]int, 1+chance.Intn(api.MaxParts))
		for i := range assigned {
			assigned[i] = chance.Intn(1 + chance.Intn(api.MaxWorkers))
		}
		vertex := func() int64 {
			switch chance.Intn(8) {
			case 0:
				return least + chance.Int63n(20)
			case 1:
				return greatest - chance.Int63n(20)
			}
			return chance.Int63n(200) - 100
		}
		var ids, others []int64
		for range chance.Intn(200) {
			ids = append(ids, vertex())
		}
		for range chance.Intn(30) {
			others = append(others, vertex())
		}
		sent, asked := to(ids...), of(others...)
		var want []going
		for worker := range api.MaxWorkers {
			if !slices.Contains(assigned, worker) {
				continue
			}
			elsewhere := func(id int64) bool { return assigned[rest(id, len(assigned))] != worker }
			want = append(want, bound(worker, 2,
				slices.DeleteFunc(slices.Clone(sent), func(m api.Message) bool { return elsewhere(m.To) }),
				slices.DeleteFunc(slices.Clone(asked), func(r api.Mutation) bool { return elsewhere(r.ID) })))
		}
		all(t, fmt.Sprint("seed ", seed), plane.Split(task(assigned...), 2, sent, asked), want...)
	}
}

// Promise 20.1: as many messages as there may be, and many more workers than there may be: each message goes to one worker.
func TestSplitGreat(t *testing.T) {
	ids := make([]int64, api.MaxSent)
	for i := range ids {
		ids[i] = int64(i) - api.MaxSent/2
	}
	sent := to(ids...)
	for _, workers := range []int{1, api.MaxParts, 50000} {
		assigned := make([]int, workers)
		for i := range assigned {
			assigned[i] = workers - i
		}
		next, n := 1, 0
		for worker, b := range plane.Split(task(assigned...), 0, sent, nil) {
			if worker != next {
				t.Fatalf("worker %d, not %d", worker, next)
			}
			for i, m := range b.Messages {
				if assigned[rest(m.To, workers)] != worker || i > 0 && b.Messages[i-1].At >= m.At {
					t.Fatalf("%v goes to %d", m, worker)
				}
			}
			next++
			n += len(b.Messages)
		}
		if next != workers+1 || n != len(sent) {
			t.Fatalf("%d messages to %d workers, not %d to %d", n, next-1, len(sent), workers)
		}
	}
}
