package kern

import (
	"slices"

	"cohort/agg"
	"cohort/api"
	"cohort/num"
)

// Step is what a vertex does in a superstep of one of this layer's programs.
func Step(program string, in api.Input) api.Output {
	out := api.Output{Err: api.ErrProgram}
	switch program {
	case "bfs":
		out = hops(in)
	case "cc":
		out = components(in)
	case "degree":
		out = degrees(in)
	case "pagerank":
		out = ranks(in)
	case "sssp":
		out = leastWeights(in)
	}
	if out.Err != api.OK {
		return api.Output{Err: out.Err}
	}
	return out
}

// degrees counts the edges that lead from a vertex, then those that lead to it.
func degrees(in api.Input) api.Output {
	if in.Step == 0 {
		n := int64(len(in.Vertex.Edges))
		return api.Output{Value: n, Halt: true, Sent: To(in, 1), Agg: given(n, api.AggSum, api.AggMax)}
	}
	// The messages first, as if they had come combined.
	sum, e := num.Sum(said(in)...)
	if e != api.OK {
		return api.Output{Err: e}
	}
	v, e := num.Add(in.Vertex.Value, sum)
	return api.Output{Value: v, Halt: true, Err: e}
}

// hops counts the edges on the shortest way from the source.
func hops(in api.Input) api.Output {
	if in.Step == 0 {
		return fromSource(in, one)
	}
	// All messages of a superstep say its number, so that they need not be asked.
	if in.Vertex.Value < 0 {
		return spread(in, int64(in.Step), one)
	}
	return stay(in)
}

// leastWeights sums the weights on the lightest way from the source.
func leastWeights(in api.Input) api.Output {
	if in.Step == 0 {
		return fromSource(in, weight)
	}
	v, ok := least(in)
	if ok && (v < in.Vertex.Value || in.Vertex.Value < 0) {
		return spread(in, v, weight)
	}
	return stay(in)
}

// ranks shares out each vertex's rank among its neighbours, turn by turn.
func ranks(in api.Input) api.Output {
	v, e := rank(in)
	out := api.Output{Value: v, Halt: int64(in.Step) >= parameter(in), Err: e}
	if n := len(in.Vertex.Edges); n > 0 && !out.Halt {
		out.Sent = To(in, v/int64(n))
	}
	return out
}

// rank is a vertex's rank: in superstep 0 the same for all, later what it has by itself, and what its messages bring.
func rank(in api.Input) (int64, api.Errno) {
	many := int64(max(in.Many, 1))
	if in.Step == 0 {
		return api.Scale / many, api.OK
	}
	sum, e := num.Sum(said(in)...)
	if e != api.OK {
		return 0, e
	}
	// 85 hundredths of what has room have room, and leave some for the rest.
	brought, _ := num.Ratio(sum, 85, 100)
	return 15*(api.Scale/100)/many + brought, api.OK
}

// components hands on the least number that reaches a vertex, once edges lead both ways.
func components(in api.Input) api.Output {
	switch in.Step {
	case 0:
		return api.Output{Value: in.Vertex.ID, Mutations: Back(in)}
	case 1:
		return api.Output{Value: in.Vertex.Value, Halt: true, Sent: To(in, in.Vertex.ID)}
	}
	v, ok := least(in)
	if ok && v < in.Vertex.Value {
		return api.Output{Value: v, Halt: true, Sent: To(in, v)}
	}
	return stay(in)
}

// stay is a vertex that keeps its value, and halts.
func stay(in api.Input) api.Output {
	return api.Output{Value: in.Vertex.Value, Halt: true}
}

// fromSource is where ways begin: the source has 0, and tells it; others have not been reached.
func fromSource(in api.Input, length func(api.Edge) int64) api.Output {
	if in.Vertex.ID == parameter(in) {
		return spread(in, 0, length)
	}
	return api.Output{Value: -1, Halt: true}
}

// spread is a vertex that has a new value, and tells each neighbour it and the edge's length.
func spread(in api.Input, v int64, length func(api.Edge) int64) api.Output {
	l := To(in, v)
	for i, edge := range in.Vertex.Edges {
		far, e := num.Add(v, length(edge))
		if e != api.OK {
			return api.Output{Err: e}
		}
		l[i].V = far
	}
	return api.Output{Value: v, Halt: true, Sent: l}
}

func one(api.Edge) int64 { return 1 }

func weight(e api.Edge) int64 { return e.Weight }

// parameter is a program's only parameter. One that is missing counts as 0, as Step's promise leaves it open.
func parameter(in api.Input) int64 {
	if len(in.Params) == 0 {
		return 0
	}
	return in.Params[0]
}

// said is what a vertex's messages say.
func said(in api.Input) []int64 {
	var l []int64
	for _, m := range in.Messages {
		l = append(l, m.V)
	}
	return l
}

// least is the least that a vertex's messages say, if there are any.
func least(in api.Input) (int64, bool) {
	l := said(in)
	if len(l) == 0 {
		return 0, false
	}
	return slices.Min(l), true
}

// given is an aggregate to which a vertex gave one number. The first of a kind has room always.
func given(v int64, kinds ...int) api.Aggregate {
	x := api.Aggregate{}
	for _, kind := range kinds {
		x, _ = agg.Add(x, kind, v)
	}
	return x
}
