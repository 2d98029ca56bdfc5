package run_test

import (
	"slices"
	"testing"

	"cohort/agg"
	"cohort/api"
	"cohort/graph"
	"cohort/run"
)

// split is a graph as parts, each with the vertices of a partition.
func split(g api.Graph, parts int) []*run.Part {
	var l []*run.Part
	for n := range parts {
		l = append(l, run.NewPart(of(slices.Collect(graph.Of(g, n, parts))...)))
	}
	return l
}

// standing is how many vertices of all parts are active, and how many there are.
func standing(l []*run.Part) (int, int) {
	active, many := 0, 0
	for _, p := range l {
		active += p.Active()
		many += len(p.G.Vertices)
	}
	return active, many
}

// compute does a superstep of all parts, the last ones first if so told.
func compute(l []*run.Part, j api.Job, step, many int, before api.Aggregate, backward bool) ([]api.Message, []api.Mutation, api.Aggregate, api.Errno) {
	var sent []api.Message
	var asked []api.Mutation
	gave := api.Aggregate{}
	for i := range l {
		if backward {
			i = len(l) - 1 - i
		}
		s, a, x, e := l[i].Step(j, step, many, before)
		both, full := agg.Merge(gave, x)
		if e != api.OK || full != api.OK {
			return nil, nil, api.Aggregate{}, api.ErrOverflow
		}
		gave, sent, asked = both, append(sent, s...), append(asked, a...)
	}
	return sent, asked, gave, api.OK
}

// bring closes all parts, each with what goes to its own vertices.
func bring(l []*run.Part, sent []api.Message, asked []api.Mutation) int {
	changed := 0
	for n, p := range l {
		mine := slices.DeleteFunc(slices.Clone(sent), func(m api.Message) bool { return graph.Part(m.To, len(l)) != n })
		own := slices.DeleteFunc(slices.Clone(asked), func(m api.Mutation) bool { return graph.Part(m.ID, len(l)) != n })
		changed += p.Close(mine, own)
	}
	return changed
}

// together is what several parts come to.
func together(j api.Job, backward bool) api.Outcome {
	l, before := split(j.Graph, j.Parts), api.Aggregate{}
	for step := 0; ; step++ {
		active, many := standing(l)
		switch {
		case active == 0:
			o := api.Outcome{Kind: api.Done, Steps: step}
			for _, p := range l {
				o.Values = append(o.Values, p.Values()...)
			}
			slices.SortFunc(o.Values, func(a, b api.Value) int {
				if a.ID < b.ID {
					return -1
				}
				return 1
			})
			return o
		case step == j.Steps:
			return failed(api.ErrSteps, step)
		}
		sent, asked, gave, e := compute(l, j, step, many, before, backward)
		switch {
		case e != api.OK:
			return failed(e, step)
		case len(sent) > j.Sent:
			return failed(api.ErrQuota, step)
		}
		bring(l, sent, asked)
		before = gave
	}
}

// Promises 9.1, 9.2: however many parts there are, and in whatever order they do their supersteps, they come to what the whole does.
func TestTogether(t *testing.T) {
	heavy := wide(30, 1, 5, 7)
	for i := range heavy.Vertices {
		heavy.Vertices[i].Edges[0].Weight = greatest / 3
	}
	kinds := map[api.Errno]int{}
	for _, g := range append(graphs(), heavy) {
		for _, j := range jobs(g) {
			for i, parts := range []int{1, 2, 3, 5, api.MaxParts} {
				j = limited(j, []int{api.MaxSteps, 4}[i%2], []int{api.MaxSent, 40}[i/2%2], parts)
				o := together(j, i%2 == 1)
				comes(t, j, o)
				kinds[o.Err]++
			}
		}
	}
	for _, e := range []api.Errno{api.OK, api.ErrSteps, api.ErrQuota, api.ErrOverflow} {
		if kinds[e] == 0 {
			t.Errorf("no job came to error %d: %v", e, kinds)
		}
	}
}

// Promise 9.2: superstep by superstep the parts are those of the whole, and so is how many requests changed something.
func TestTogetherStepwise(t *testing.T) {
	for _, g := range []api.Graph{small(), wide(17, 1), wide(30, 1, 5, 7), drawn(0xbeef)} {
		for _, j := range jobs(g) {
			whole, l := split(g, 1), split(g, 4)
			before := api.Aggregate{}
			for step := range 8 {
				sent, asked, gave, e := compute(whole, j, step, len(g.Vertices), before, false)
				s, a, x, f := compute(l, j, step, len(g.Vertices), before, true)
				if e != f || gave != x || len(sent) != len(s) {
					t.Fatalf("%s, superstep %d: %d sent, gave %v, error %d; by parts %d, %v, %d", j.Program, step, len(sent), gave, e, len(s), x, f)
				}
				if n, m := bring(whole, sent, asked), bring(l, s, a); n != m {
					t.Errorf("%s, superstep %d: %d requests changed something, by parts %d", j.Program, step, n, m)
				}
				before = gave
				alike(t, j.Program, whole[0], l)
			}
		}
	}
}

// alike tells whether parts have just what the whole has.
func alike(t *testing.T, name string, whole *run.Part, l []*run.Part) {
	t.Helper()
	for n, p := range l {
		if !graph.Same(p.G, of(slices.Collect(graph.Of(whole.G, n, len(l)))...)) {
			t.Errorf("%s: part %d is %v", name, n, p.G)
		}
		for _, v := range p.G.Vertices {
			if p.Halted[v.ID] != whole.Halted[v.ID] || !slices.Equal(p.Box.For(v.ID), whole.Box.For(v.ID)) {
				t.Errorf("%s: %d has halted %v, messages %v", name, v.ID, p.Halted[v.ID], p.Box.For(v.ID))
			}
		}
	}
	n := 0
	for _, p := range l {
		n += p.Box.Len()
	}
	if n != whole.Box.Len() {
		t.Errorf("%s: %d messages, not %d", name, n, whole.Box.Len())
	}
}
