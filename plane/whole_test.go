package plane_test

import (
	"fmt"
	"math/rand"
	"testing"

	"cohort/api"
	"cohort/plane"
)

// packet is a batch, or an acknowledgement of one, under way between workers.
type packet struct {
	from, to int
	ack      bool
	b        api.Batch
}

// peers is workers that send one another batches over ways on which these may be lost, doubled and late.
type peers struct {
	in    []*plane.In
	out   []*plane.Out
	under []packet
}

func newPeers(n int) *peers {
	p := &peers{}
	for range n {
		p.in = append(p.in, plane.NewIn())
		p.out = append(p.out, plane.NewOut())
	}
	return p
}

// send splits what a worker sends: its own batch is there, the others are laid.
func (p *peers) send(x api.Task, from int, sent []api.Message, asked []api.Mutation) {
	for worker, b := range plane.Split(x, from, sent, asked) {
		if worker == from {
			p.in[from].Put(b)
		} else {
			p.out[from].Put(worker, b)
		}
	}
}

// waits tells whether a worker waits for an acknowledgement.
func (p *peers) waits() bool {
	for _, o := range p.out {
		if o.Len() > 0 {
			return true
		}
	}
	return false
}

// resend puts all that was not acknowledged under way.
func (p *peers) resend() {
	for from, o := range p.out {
		for worker, b := range o.All() {
			p.under = append(p.under, packet{from, worker, false, b})
		}
	}
}

// arrive lets one packet come, be lost, or come and stay under way.
func (p *peers) arrive(chance *rand.Rand) {
	if len(p.under) == 0 {
		return
	}
	i := chance.Intn(len(p.under))
	x := p.under[i]
	kind := chance.Intn(4)
	if kind > 0 {
		p.under = append(p.under[:i], p.under[i+1:]...)
	}
	if kind == 1 {
		return
	}
	if x.ack {
		p.out[x.to].Ack(x.from, x.b)
		return
	}
	p.in[x.to].Put(x.b)
	p.under = append(p.under, packet{x.to, x.from, true, x.b})
}

// settle sends what waits, again and again, until nothing does: whether that was in a bearable time.
func (p *peers) settle(chance *rand.Rand) bool {
	for range 200 {
		if !p.waits() {
			return true
		}
		p.resend()
		for range len(p.under) {
			p.arrive(chance)
		}
	}
	return false
}

// some is what a worker sends and asks for in a superstep.
func some(chance *rand.Rand) ([]api.Message, []api.Mutation) {
	var ids, others []int64
	for range chance.Intn(12) {
		ids = append(ids, chance.Int63n(40)-20)
	}
	for range chance.Intn(4) {
		others = append(others, chance.Int63n(40)-20)
	}
	return to(ids...), of(others...)
}

// Promises 20.1, 20.2: whatever is lost, doubled and late, each worker takes in each superstep just what was sent to it in that, once, by senders.
func TestWhole(t *testing.T) {
	for seed := range int64(60) {
		chance := rand.New(rand.NewSource(seed))
		workers := 1 + chance.Intn(5)
		p := newPeers(workers)
		assigned := make([]int, workers+chance.Intn(api.MaxParts-workers))
		for i := range assigned {
			assigned[i] = i % workers
		}
		for epoch := 1; epoch < 3; epoch++ {
			for step := range 5 {
				x := api.Task{Job: 1, Epoch: epoch, Step: step, Assigned: assigned}
				want := make([][]api.Batch, workers)
				for from := range workers {
					sent, asked := some(chance)
					p.send(x, from, sent, asked)
					for worker := range workers {
						want[worker] = append(want[worker], mine(assigned, worker, sent, asked))
					}
				}
				if !p.settle(chance) {
					t.Fatalf("seed %d: some batches are never acknowledged", seed)
				}
				for worker := range workers {
					takes(t, fmt.Sprint("seed ", seed, ", worker ", worker), p.in[worker], epoch, step, want[worker]...)
				}
			}
			for worker := range workers {
				p.in[worker].Drop(epoch + 1)
				many(t, "behind the epoch", p.in[worker], 0)
			}
		}
	}
}

// mine is what is sent to a worker, and asked for of its vertices.
func mine(assigned []int, worker int, sent []api.Message, asked []api.Mutation) api.Batch {
	var b api.Batch
	for _, m := range sent {
		if assigned[rest(m.To, len(assigned))] == worker {
			b.Messages = append(b.Messages, m)
		}
	}
	for _, r := range asked {
		if assigned[rest(r.ID, len(assigned))] == worker {
			b.Mutations = append(b.Mutations, r)
		}
	}
	return b
}
