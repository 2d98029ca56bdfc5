package master_test

import (
	"maps"
	"slices"
	"testing"

	"cohort/agg"
	"cohort/api"
	"cohort/comb"
	"cohort/graph"
	"cohort/master"
	"cohort/run"
)

// place is where something is of a job: in an epoch, at a superstep, of a partition or a worker.
type place struct {
	job, epoch, step, of int
}

// sent is what a worker sent and asked for in a superstep.
type sent struct {
	messages []api.Message
	asked    []api.Mutation
}

// crew is workers that do what they are told, with a post and a disk that all of them share.
type crew struct {
	all  map[int]*hand
	post map[place]sent
	disk map[place]*run.Part
}

// hand is a worker: the task that it took last, what it reported of it, and its parts.
type hand struct {
	task   api.Task
	report api.Report
	parts  map[int]*run.Part
}

func newCrew() *crew {
	return &crew{all: map[int]*hand{}, post: map[place]sent{}, disk: map[place]*run.Part{}}
}

// fresh is a worker that stands up, with nothing.
func (c *crew) fresh(worker int) { delete(c.all, worker) }

// works is what a worker reports of a task; a task that it has done it does not do again.
func (c *crew) works(t *testing.T, worker int, x api.Task) api.Report {
	t.Helper()
	h := c.all[worker]
	if h == nil {
		h = &hand{}
		c.all[worker] = h
	}
	last := h.task
	if last.Epoch == x.Epoch && last.Step == x.Step && last.Phase == x.Phase {
		return h.report
	}
	if x.Phase != api.PhaseLoad && last.Epoch != x.Epoch {
		t.Errorf("worker %d is to do %v, and has loaded nothing", worker, x)
	}
	r := answer(x, worker)
	switch x.Phase {
	case api.PhaseLoad:
		h.parts = c.load(t, x)
		r.Active, r.Many = h.counts()
	case api.PhaseCompute:
		c.compute(h, x, &r)
	case api.PhaseClose:
		c.close(h, x)
		r.Active, r.Many = h.counts()
	case api.PhaseCollect:
		for _, n := range x.Parts {
			r.Values = append(r.Values, h.parts[n].Values()...)
		}
	}
	h.task, h.report = x, r
	return r
}

func (h *hand) counts() (active, many int) {
	for _, p := range h.parts {
		active += p.Active()
		many += len(p.G.Vertices)
	}
	return active, many
}

func (c *crew) load(t *testing.T, x api.Task) map[int]*run.Part {
	t.Helper()
	l := map[int]*run.Part{}
	for _, n := range x.Parts {
		if x.From == 0 {
			l[n] = run.NewPart(api.Graph{Vertices: slices.Collect(graph.Of(x.Spec.Graph, n, x.Spec.Parts))})
			continue
		}
		p := c.disk[place{x.Job, x.FromEpoch, x.From, n}]
		if p == nil {
			t.Fatalf("there is no checkpoint of partition %d for %v", n, x)
		}
		l[n] = clonePart(p)
	}
	return l
}

func clonePart(p *run.Part) *run.Part {
	b := comb.New()
	b.Put(slices.Collect(p.Box.All())...)
	return &run.Part{G: graph.Clone(p.G), Halted: maps.Clone(p.Halted), Box: b}
}

func (c *crew) compute(h *hand, x api.Task, r *api.Report) {
	out := sent{}
	for _, n := range x.Parts {
		messages, asked, gave, e := h.parts[n].Step(x.Spec, x.Step, x.Many, x.Before)
		both, full := agg.Merge(r.Agg, gave)
		if e != api.OK || full != api.OK {
			r.Err = api.ErrOverflow
			return
		}
		r.Agg, out.messages, out.asked = both, append(out.messages, messages...), append(out.asked, asked...)
	}
	r.Sent = len(out.messages)
	c.post[place{x.Job, x.Epoch, x.Step, r.Worker}] = out
}

func (c *crew) close(h *hand, x api.Task) {
	for _, n := range x.Parts {
		var in sent
		for worker := range api.MaxWorkers {
			out := c.post[place{x.Job, x.Epoch, x.Step, worker}]
			for _, m := range out.messages {
				if graph.Part(m.To, x.Spec.Parts) == n {
					in.messages = append(in.messages, m)
				}
			}
			for _, m := range out.asked {
				if graph.Part(m.ID, x.Spec.Parts) == n {
					in.asked = append(in.asked, m)
				}
			}
		}
		h.parts[n].Close(in.messages, in.asked)
		if x.Keep {
			c.disk[place{x.Job, x.Epoch, x.Step + 1, n}] = clonePart(h.parts[n])
		}
	}
}

// turn lets a worker do what it is to do, and report it: whether there was something.
func (c *crew) turn(t *testing.T, m *master.Master, worker int) bool {
	t.Helper()
	x, ok := m.Task(worker)
	if !ok {
		return false
	}
	does(t, m, reports(c.works(t, worker, x)))
	return true
}

// finish lets all workers do what they are to do, until nothing is left.
func (c *crew) finish(t *testing.T, m *master.Master) {
	t.Helper()
	for m.Open() > 0 {
		busy := false
		for _, w := range m.Workers() {
			busy = c.turn(t, m, w) || busy
		}
		if !busy {
			t.Fatalf("%d jobs are open, and nobody has anything to do", m.Open())
		}
	}
}
