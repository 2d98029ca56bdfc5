package serve_test

import (
	"maps"
	"slices"

	"cohort/agg"
	"cohort/api"
	"cohort/comb"
	"cohort/graph"
	"cohort/run"
)

// place is where something is of a job: in an epoch, at a superstep, of a partition or a worker.
type place struct{ job, epoch, step, of int }

// sent is what a worker sent and asked for in a superstep.
type sent struct {
	messages []api.Message
	asked    []api.Mutation
}

// crew is workers that do what they are told, with a post and a disk that all of them share, and that never fail.
type crew struct {
	hands []*hand
	post  map[place]sent
	disk  map[place]*run.Part
}

// hand is a worker: its life, the master that it thinks of, the task that it took last, what it reports of it, and its parts.
type hand struct {
	id, life, of int
	has          bool
	task         api.Task
	report       api.Report
	parts        map[int]*run.Part
}

func newCrew(n int) *crew {
	c := &crew{post: map[place]sent{}, disk: map[place]*run.Part{}}
	for id := range n {
		c.hands = append(c.hands, &hand{id: id, life: 1})
	}
	return c
}

// falls lets a worker lose its power, and stand up with nothing.
func (h *hand) falls() { *h = hand{id: h.id, life: h.life + 1, of: h.of} }

// beat is what a worker tells a master.
func (h *hand) beat() api.Say {
	if h.has {
		return reportSay(h.id, h.life, h.report)
	}
	return beatSay(h.id, h.life)
}

// isBehind tells whether a task comes behind the last one, and can be done.
func (h *hand) isBehind(x api.Task) bool {
	last := []int{h.task.Epoch, h.task.Step, h.task.Phase}
	if slices.Compare([]int{x.Epoch, x.Step, x.Phase}, last) <= 0 {
		return false
	}
	return x.Phase == api.PhaseLoad || h.has && x.Epoch == h.task.Epoch
}

// takes lets a worker do a task.
func (c *crew) takes(h *hand, x api.Task) {
	if !h.isBehind(x) {
		return
	}
	r := api.Report{Job: x.Job, Epoch: x.Epoch, Step: x.Step, Phase: x.Phase, Worker: h.id}
	switch x.Phase {
	case api.PhaseLoad:
		h.parts = c.load(x)
		r.Active, r.Many = h.counts()
	case api.PhaseCompute:
		c.compute(h, x, &r)
	case api.PhaseClose:
		c.close(h, x)
		r.Active, r.Many = h.counts()
	case api.PhaseCollect:
		for _, n := range x.Parts {
			r.Values = append(r.Values, h.parts[n].Values()...)
		}
	}
	h.has, h.task, h.report = true, x, r
}

func (h *hand) counts() (active, many int) {
	for _, p := range h.parts {
		active += p.Active()
		many += len(p.G.Vertices)
	}
	return active, many
}

func (c *crew) load(x api.Task) map[int]*run.Part {
	l := map[int]*run.Part{}
	for _, n := range x.Parts {
		if x.From == 0 {
			l[n] = run.NewPart(api.Graph{Vertices: slices.Collect(graph.Of(x.Spec.Graph, n, x.Spec.Parts))})
			continue
		}
		p := c.disk[place{x.Job, x.FromEpoch, x.From, n}]
		b := comb.New()
		b.Put(slices.Collect(p.Box.All())...)
		l[n] = &run.Part{G: graph.Clone(p.G), Halted: maps.Clone(p.Halted), Box: b}
	}
	return l
}

func (c *crew) compute(h *hand, x api.Task, r *api.Report) {
	out := sent{}
	for _, n := range x.Parts {
		messages, asked, gave, e := h.parts[n].Step(x.Spec, x.Step, x.Many, x.Before)
		both, full := agg.Merge(r.Agg, gave)
		if e != api.OK || full != api.OK {
			r.Err = api.ErrOverflow
			return
		}
		r.Agg, out.messages, out.asked = both, append(out.messages, messages...), append(out.asked, asked...)
	}
	r.Sent = len(out.messages)
	c.post[place{x.Job, x.Epoch, x.Step, h.id}] = out
}

func (c *crew) close(h *hand, x api.Task) {
	for _, n := range x.Parts {
		var in sent
		for worker := range c.hands {
			out := c.post[place{x.Job, x.Epoch, x.Step, worker}]
			for _, m := range out.messages {
				if graph.Part(m.To, x.Spec.Parts) == n {
					in.messages = append(in.messages, m)
				}
			}
			for _, m := range out.asked {
				if graph.Part(m.ID, x.Spec.Parts) == n {
					in.asked = append(in.asked, m)
				}
			}
		}
		p := h.parts[n]
		p.Close(in.messages, in.asked)
		if x.Keep {
			b := comb.New()
			b.Put(slices.Collect(p.Box.All())...)
			c.disk[place{x.Job, x.Epoch, x.Step + 1, n}] = &run.Part{G: graph.Clone(p.G), Halted: maps.Clone(p.Halted), Box: b}
		}
	}
}
