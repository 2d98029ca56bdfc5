package plane_test

import (
	"iter"
	"math"
	"slices"
	"testing"

	"cohort/api"
	"cohort/plane"
)

const (
	least    = math.MinInt64
	greatest = math.MaxInt64
)

// to is messages to vertices, whose other fields tell them apart, and name other vertices.
func to(ids ...int64) []api.Message {
	var l []api.Message
	for i, id := range ids {
		l = append(l, api.Message{From: int64(i) - 3, To: id, At: i, V: 100 + int64(i)})
	}
	return l
}

// of is requests of vertices, whose other fields tell them apart, and name other vertices.
func of(ids ...int64) []api.Mutation {
	var l []api.Mutation
	for i, id := range ids {
		l = append(l, api.Mutation{Kind: i%4 + 1, ID: id, To: int64(i) - 5, V: 200 + int64(i)})
	}
	return l
}

// batch is a batch of an epoch, a superstep and a sender, with a message and a request that tell its mark.
func batch(epoch, step, from int, mark int64) api.Batch {
	return api.Batch{
		Job: 3, Epoch: epoch, Step: step, From: from,
		Messages:  []api.Message{{From: mark, To: 1, At: 2, V: mark}},
		Mutations: []api.Mutation{{Kind: api.MutAddVertex, ID: mark, V: mark}},
	}
}

// deep is a batch that shares nothing with the one that is given.
func deep(b api.Batch) api.Batch {
	b.Messages = append([]api.Message{}, b.Messages...)
	b.Mutations = append([]api.Mutation{}, b.Mutations...)
	return b
}

// spoil changes all that the lists hold, and what may stand behind them.
func spoil(sent []api.Message, asked []api.Mutation) {
	for i := range sent {
		sent[i] = api.Message{From: -77, To: -77, At: -77, V: -77}
	}
	for i := range asked {
		asked[i] = api.Mutation{Kind: -77, ID: -77, To: -77, V: -77}
	}
	_ = append(sent, api.Message{V: -78})
	_ = append(asked, api.Mutation{V: -78})
}

// equal tells whether two batches are the same; lists that are nil and empty are.
func equal(a, b api.Batch) bool {
	return a.Job == b.Job && a.Epoch == b.Epoch && a.Step == b.Step && a.From == b.From &&
		slices.Equal(a.Messages, b.Messages) && slices.Equal(a.Mutations, b.Mutations)
}

// going is a batch, and the worker that it goes to.
type going struct {
	to int
	b  api.Batch
}

// over is what goes by, up to so many.
func over(seq iter.Seq2[int, api.Batch], most int) []going {
	var l []going
	if most == 0 {
		return l
	}
	for worker, b := range seq {
		l = append(l, going{worker, b})
		if len(l) == most {
			break
		}
	}
	return l
}

// all is that just these batches go by, in this order.
func all(t *testing.T, what string, seq iter.Seq2[int, api.Batch], want ...going) {
	t.Helper()
	these(t, what, over(seq, math.MaxInt), want)
}

// these holds batches that went by against what they must be.
func these(t *testing.T, what string, got, want []going) {
	t.Helper()
	if !slices.EqualFunc(got, want, func(a, b going) bool { return a.to == b.to && equal(a.b, b.b) }) {
		t.Fatalf("%s: %+v, not %+v", what, got, want)
	}
}

// puts is what Put tells of a batch that came. The batch is as it was.
func puts(t *testing.T, what string, x *plane.In, b api.Batch, want bool) {
	t.Helper()
	before := deep(b)
	if got := x.Put(b); got != want {
		t.Fatalf("%s: Put of epoch %d, superstep %d, from %d: %v", what, b.Epoch, b.Step, b.From, got)
	}
	if !equal(b, before) {
		t.Fatalf("%s: Put has changed the batch", what)
	}
}

// has is what Has tells.
func has(t *testing.T, what string, x *plane.In, epoch, step, from int, want bool) {
	t.Helper()
	if got := x.Has(epoch, step, from); got != want {
		t.Fatalf("%s: Has(%d, %d, %d): %v", what, epoch, step, from, got)
	}
}

// takes is that Take has the messages and requests of just these batches, in this order.
func takes(t *testing.T, what string, x *plane.In, epoch, step int, want ...api.Batch) {
	t.Helper()
	var sent []api.Message
	var asked []api.Mutation
	for _, b := range want {
		sent = append(sent, b.Messages...)
		asked = append(asked, b.Mutations...)
	}
	gotSent, gotAsked := x.Take(epoch, step)
	if !slices.Equal(gotSent, sent) || !slices.Equal(gotAsked, asked) {
		t.Fatalf("%s: Take(%d, %d): %v and %v, not %v and %v", what, epoch, step, gotSent, gotAsked, sent, asked)
	}
}

// drops is how many Drop lets go.
func drops(t *testing.T, what string, x *plane.In, epoch, want int) {
	t.Helper()
	if got := x.Drop(epoch); got != want {
		t.Fatalf("%s: Drop(%d): %d, not %d", what, epoch, got, want)
	}
}

// many is how many batches there are.
func many(t *testing.T, what string, x interface{ Len() int }, want int) {
	t.Helper()
	if got := x.Len(); got != want {
		t.Fatalf("%s: %d batches, not %d", what, got, want)
	}
}

// lays is that a batch is put for a worker. The batch is as it was.
func lays(t *testing.T, what string, x *plane.Out, worker int, b api.Batch) {
	t.Helper()
	before := deep(b)
	if e := x.Put(worker, b); e != api.OK {
		t.Fatalf("%s: Put for %d: error %d", what, worker, e)
	}
	if !equal(b, before) {
		t.Fatalf("%s: Put has changed the batch", what)
	}
}

// acks is what Ack tells. The batch is as it was.
func acks(t *testing.T, what string, x *plane.Out, from int, b api.Batch, want bool) {
	t.Helper()
	before := deep(b)
	if got := x.Ack(from, b); got != want {
		t.Fatalf("%s: Ack by %d of epoch %d, superstep %d: %v", what, from, b.Epoch, b.Step, got)
	}
	if !equal(b, before) {
		t.Fatalf("%s: Ack has changed the batch", what)
	}
}
