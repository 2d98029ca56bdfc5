package plane_test

import (
	"cmp"
	"fmt"
	"math/rand"
	"slices"
	"testing"

	"cohort/api"
	"cohort/plane"
)

// inbox is In by another way: a list of all batches, as they came.
type inbox struct {
	all []api.Batch
}

func (m *inbox) has(epoch, step, from int) bool {
	return slices.ContainsFunc(m.all, func(b api.Batch) bool { return b.Epoch == epoch && b.Step == step && b.From == from })
}

func (m *inbox) put(b api.Batch) bool {
	if m.has(b.Epoch, b.Step, b.From) {
		return false
	}
	m.all = append(m.all, deep(b))
	return true
}

// take is the batches of a superstep, by their senders.
func (m *inbox) take(epoch, step int) []api.Batch {
	var gone, stay []api.Batch
	for _, b := range m.all {
		if b.Epoch == epoch && b.Step == step {
			gone = append(gone, b)
		} else {
			stay = append(stay, b)
		}
	}
	m.all = stay
	slices.SortStableFunc(gone, func(a, b api.Batch) int { return cmp.Compare(a.From, b.From) })
	return gone
}

func (m *inbox) drop(epoch int) int {
	n := len(m.all)
	m.all = slices.DeleteFunc(m.all, func(b api.Batch) bool { return b.Epoch < epoch })
	return n - len(m.all)
}

// agrees holds all that In tells, and changes nothing by, against the model.
func (m *inbox) agrees(t *testing.T, what string, x *plane.In, most int) {
	t.Helper()
	many(t, what, x, len(m.all))
	for epoch := range most {
		for step := range most {
			for from := range most {
				has(t, what, x, epoch, step, from, m.has(epoch, step, from))
			}
		}
	}
}

// Promise 20.1: long walks beside the model.
func TestInWalks(t *testing.T) {
	const most = 4
	for seed := range int64(60) {
		chance := rand.New(rand.NewSource(seed))
		x, m := plane.NewIn(), &inbox{}
		for i := range 500 {
			what := fmt.Sprint("seed ", seed, ", call ", i)
			epoch, step, from := chance.Intn(most), chance.Intn(most), chance.Intn(most)
			switch kind := chance.Intn(20); {
			case kind < 15:
				b := batch(epoch, step, from, int64(i))
				puts(t, what, x, b, m.put(b))
			case kind < 19:
				takes(t, what, x, epoch, step, m.take(epoch, step)...)
			default:
				drops(t, what, x, epoch, m.drop(epoch))
			}
			m.agrees(t, what, x, most)
		}
		for epoch := range most {
			for step := range most {
				takes(t, fmt.Sprint("seed ", seed, ", in the end"), x, epoch, step, m.take(epoch, step)...)
			}
		}
		many(t, "in the end", x, 0)
	}
}

// Promise 20.1: all short ways in which batches of two epochs, supersteps and workers may come and go.
func TestInShortWalks(t *testing.T) {
	const calls, long = 14, 4
	for way := range calls * calls * calls * calls {
		x, m := plane.NewIn(), &inbox{}
		what := fmt.Sprint("way ", way)
		rest := way
		for i := range long {
			call := rest % calls
			rest /= calls
			switch {
			case call < 8:
				b := batch(call&1, call>>1&1, call>>2, int64(i))
				puts(t, what, x, b, m.put(b))
			case call < 12:
				takes(t, what, x, call&1, call>>1&1, m.take(call&1, call>>1&1)...)
			default:
				drops(t, what, x, call-11, m.drop(call-11))
			}
		}
		m.agrees(t, what, x, 2)
	}
}

// outbox is Out by another way: a list of what goes to workers, in their order.
type outbox struct {
	all []going
}

func (m *outbox) put(worker int, b api.Batch) {
	m.drop(func(g going) bool { return g.to == worker })
	m.all = append(m.all, going{worker, deep(b)})
	slices.SortFunc(m.all, func(a, b going) int { return cmp.Compare(a.to, b.to) })
}

func (m *outbox) ack(worker int, b api.Batch) bool {
	return m.drop(func(g going) bool { return g.to == worker && g.b.Epoch == b.Epoch && g.b.Step == b.Step })
}

func (m *outbox) drop(such func(g going) bool) bool {
	n := len(m.all)
	m.all = slices.DeleteFunc(m.all, such)
	return len(m.all) < n
}

// both does a call of Out and of the model, and holds what Out tells against that.
func (m *outbox) both(t *testing.T, what string, x *plane.Out, kind, worker int, b api.Batch) {
	t.Helper()
	switch kind {
	case 0:
		lays(t, what, x, worker, b)
		m.put(worker, b)
	case 1:
		acks(t, what, x, worker, b, m.ack(worker, b))
	default:
		x.Clear()
		m.all = nil
	}
	many(t, what, x, len(m.all))
	all(t, what, x.All(), m.all...)
}

// Promise 20.2: long walks beside the model.
func TestOutWalks(t *testing.T) {
	for seed := range int64(60) {
		chance := rand.New(rand.NewSource(seed))
		x, m := plane.NewOut(), &outbox{}
		for i := range 500 {
			kind := 0
			if k := chance.Intn(50); k == 0 {
				kind = 2
			} else if k < 30 {
				kind = 1
			}
			b := batch(chance.Intn(2), chance.Intn(2), chance.Intn(3), int64(i))
			m.both(t, fmt.Sprint("seed ", seed, ", call ", i), x, kind, chance.Intn(6)-1, b)
		}
	}
}

// Promise 20.2: all short ways in which batches of two epochs and supersteps for two workers may come and go.
func TestOutShortWalks(t *testing.T) {
	const calls, long = 17, 3
	for way := range calls * calls * calls {
		x, m := plane.NewOut(), &outbox{}
		rest := way
		for i := range long {
			call := rest % calls
			rest /= calls
			m.both(t, fmt.Sprint("way ", way), x, call>>3, call>>2&1, batch(call&1, call>>1&1, 5, int64(i)))
		}
	}
}
