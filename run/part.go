package run

import (
	"cmp"
	"slices"

	"cohort/agg"
	"cohort/api"
	"cohort/comb"
	"cohort/graph"
	"cohort/kern"
	"cohort/more"
	"cohort/mut"
)

// Part is some vertices, whether each has halted, and the messages that are there for them.
type Part struct {
	G      api.Graph
	Halted map[int64]bool
	Box    *comb.Box
}

// NewPart is a part of vertices that have not begun.
func NewPart(g api.Graph) *Part {
	return &Part{G: graph.Clone(g), Halted: map[int64]bool{}, Box: comb.New()}
}

// vertices is a part's vertices, as they stand. A nil part has none.
func (p *Part) vertices() []api.Vertex {
	if p == nil {
		return nil
	}
	return p.G.Vertices
}

// byNumber is the places of a part's vertices, by their numbers. They rise in all graphs that may be, but anybody can lay others.
func (p *Part) byNumber() []int {
	l := p.vertices()
	var places []int
	for i := range l {
		places = append(places, i)
	}
	slices.SortStableFunc(places, func(a, b int) int { return cmp.Compare(l[a].ID, l[b].ID) })
	return places
}

func (p *Part) active(id int64) bool {
	return !p.Halted[id] || p.Box.Has(id)
}

// Active is how many vertices have something to do.
func (p *Part) Active() int {
	n := 0
	for _, v := range p.vertices() {
		if p.active(v.ID) {
			n++
		}
	}
	return n
}

// Step does a superstep: what the vertices sent and asked for, and their aggregate. With an error the vertices ahead of it have done theirs.
func (p *Part) Step(j api.Job, step, many int, before api.Aggregate) ([]api.Message, []api.Mutation, api.Aggregate, api.Errno) {
	var sent []api.Message
	var asked []api.Mutation
	gave := api.Aggregate{}
	for _, at := range p.byNumber() {
		if !p.active(p.G.Vertices[at].ID) {
			continue
		}
		out := p.turn(at, j.Program, api.Input{Step: step, Before: before, Many: many, Params: j.Params})
		both, e := agg.Merge(gave, out.Agg)
		if out.Err != api.OK || e != api.OK {
			return nil, nil, api.Aggregate{}, api.ErrOverflow
		}
		gave, sent, asked = both, append(sent, out.Sent...), append(asked, out.Mutations...)
	}
	p.empty()
	return sent, asked, gave, api.OK
}

// turn is what the vertex at a place does, given all that it does not know itself. Its value, and whether it halted, are laid.
func (p *Part) turn(at int, program string, in api.Input) api.Output {
	v := &p.G.Vertices[at]
	l, e := comb.Combine(kern.Combiner(program), p.Box.For(v.ID))
	if e != api.OK {
		return api.Output{Err: e}
	}
	in.Vertex, in.Halted, in.Messages = *v, p.Halted[v.ID], l
	out := more.Step(program, in)
	if out.Err == api.OK {
		v.Value = out.Value
		p.lay(v.ID, out.Halt)
	}
	return out
}

// lay notes whether a vertex has halted. A part that was not made by NewPart may have no map yet.
func (p *Part) lay(id int64, halted bool) {
	if p.Halted == nil {
		p.Halted = map[int64]bool{}
	}
	p.Halted[id] = halted
}

// empty takes all messages away, those for vertices that are not there, too.
func (p *Part) empty() {
	if p != nil {
		p.Box = comb.New()
	}
}

// Close ends a superstep: requests are done, then messages come to those that are there. It tells how many requests changed something.
func (p *Part) Close(sent []api.Message, asked []api.Mutation) int {
	if p == nil {
		return 0
	}
	g, n := mut.Apply(p.G, asked)
	p.G = g
	p.forget(asked)
	p.bring(sent)
	return n
}

// forget is for vertices that went: one of the same number that comes, now or later, has not begun.
func (p *Part) forget(asked []api.Mutation) {
	for _, m := range asked {
		if m.Kind == api.MutRemoveVertex {
			delete(p.Halted, m.ID)
		}
	}
}

// bring puts into the box what goes to vertices that are there.
func (p *Part) bring(sent []api.Message) {
	there := map[int64]struct{}{}
	for _, v := range p.G.Vertices {
		there[v.ID] = struct{}{}
	}
	if p.Box == nil {
		p.Box = comb.New()
	}
	for _, m := range sent {
		if _, ok := there[m.To]; ok {
			p.Box.Put(m)
		}
	}
}

// Values is all values, by the vertices' numbers.
func (p *Part) Values() []api.Value {
	var l []api.Value
	for _, at := range p.byNumber() {
		v := p.G.Vertices[at]
		l = append(l, api.Value{ID: v.ID, V: v.Value})
	}
	return l
}
