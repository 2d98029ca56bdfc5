package more

import (
	"cohort/agg"
	"cohort/api"
	"cohort/kern"
)

// Step is what a vertex does in a superstep of any program.
func Step(program string, in api.Input) api.Output {
	switch program {
	case "colors":
		return colors(in)
	case "kcore":
		return cores(in)
	case "labels":
		return labels(in)
	case "matching":
		return matching(in)
	case "triangles":
		return triangles(in)
	}
	return kern.Step(program, in)
}

// bothWays is a vertex that lays its first value, asks for edges back, and does not halt.
func bothWays(in api.Input, v int64) api.Output {
	return api.Output{Value: v, Mutations: kern.Back(in)}
}

// stay is a vertex that keeps its value, and halts.
func stay(in api.Input) api.Output {
	return api.Output{Value: in.Vertex.Value, Halt: true}
}

// others is the ends of a vertex's edges but itself.
func others(in api.Input) []int64 {
	var l []int64
	for _, edge := range in.Vertex.Edges {
		if edge.To != in.Vertex.ID {
			l = append(l, edge.To)
		}
	}
	return l
}

// tell is a message to each of some vertices, all of which say the same.
func tell(in api.Input, v int64, ends []int64) []api.Message {
	var sent []api.Message
	for i, to := range ends {
		sent = append(sent, api.Message{From: in.Vertex.ID, To: to, At: i, V: v})
	}
	return sent
}

// parameter is a program's only parameter. One that is missing counts as 0, as it does in kern.
func parameter(in api.Input) int64 {
	if len(in.Params) == 0 {
		return 0
	}
	return in.Params[0]
}

// given is an aggregate to which a vertex gave one number. The first of a kind has room always.
func given(kind int, v int64) api.Aggregate {
	x, _ := agg.Add(api.Aggregate{}, kind, v)
	return x
}
