package more_test

import (
	"math"
	"slices"
	"testing"

	"cohort/api"
	"cohort/graph"
	"cohort/more"
)

const (
	least    = math.MinInt64
	greatest = math.MaxInt64
)

// five is the names of this layer's programs.
func five() []string {
	return []string{"colors", "kcore", "labels", "matching", "triangles"}
}

// below is the names of the programs that the layer below has.
func below() []string {
	return []string{"bfs", "cc", "degree", "pagerank", "sssp"}
}

// strangers is names that are none of all programs.
func strangers() []string {
	return []string{"", " ", "none", "color", "colour", "colours", "COLORS", "Colors", "colors ", " colors", "colors\x00", "k-core", "core", "kcore2",
		"label", "labels\n", "Labels", "match", "matchings", "triangle", "TRIANGLES", "bfs ", "bf", "CC", "\xff", "labels,kcore"}
}

// clone is an input of its own.
func clone(in api.Input) api.Input {
	in.Vertex.Edges = slices.Clone(in.Vertex.Edges)
	in.Messages = slices.Clone(in.Messages)
	in.Params = slices.Clone(in.Params)
	return in
}

// untouched tells whether what was handed in is as it was.
func untouched(t *testing.T, what string, in, before api.Input) {
	t.Helper()
	one, two := api.Graph{Vertices: []api.Vertex{in.Vertex}}, api.Graph{Vertices: []api.Vertex{before.Vertex}}
	if !graph.Same(one, two) || !slices.Equal(in.Messages, before.Messages) || !slices.Equal(in.Params, before.Params) {
		t.Errorf("%s: what was handed in became %v, not %v", what, in, before)
	}
}

// sameOutput tells whether two outputs are the same; a list that is nil and one that is empty are.
func sameOutput(a, b api.Output) bool {
	return a.Value == b.Value && a.Halt == b.Halt && a.Err == b.Err && a.Agg == b.Agg &&
		slices.Equal(a.Sent, b.Sent) && slices.Equal(a.Mutations, b.Mutations)
}

// spoil changes the lists of an output.
func spoil(out api.Output) {
	for i := range out.Sent {
		out.Sent[i] = api.Message{From: -99, To: -99, At: -99, V: -99}
	}
	for i := range out.Mutations {
		out.Mutations[i] = api.Mutation{Kind: -99, ID: -99, To: -99, V: -99}
	}
}

// does tells whether a step is that, the same again once the first answer was changed, and leaves what was handed in as it was.
func does(t *testing.T, what, program string, in api.Input, want api.Output) {
	t.Helper()
	before := clone(in)
	for _, halted := range []bool{false, true} {
		in.Halted = halted
		got := more.Step(program, in)
		if !sameOutput(got, want) {
			t.Errorf("%s, %s, superstep %d: %+v, not %+v", program, what, in.Step, got, want)
		}
		untouched(t, what, in, before)
		spoil(got)
		untouched(t, what+", once the answer was changed", in, before)
	}
}

// had is an aggregate that has a value of each kind: of AggOr that one, of others 9.
func had(or int64) api.Aggregate {
	x := api.Aggregate{}
	for kind := range api.Aggs {
		x.Has[kind], x.V[kind] = true, 9
	}
	x.V[api.AggOr] = or
	return x
}

// gave is an aggregate that has a value of one kind.
func gave(kind int, v int64) api.Aggregate {
	x := api.Aggregate{}
	x.Has[kind], x.V[kind] = true, v
	return x
}

// vertex is a vertex with a value, and edges to some ends, with weights that don't count.
func vertex(id, value int64, ends ...int64) api.Vertex {
	v := api.Vertex{ID: id, Value: value}
	for i, to := range ends {
		v.Edges = append(v.Edges, api.Edge{To: to, Weight: int64(3 - 2*i)})
	}
	return v
}

// busy is vertex 5 with a value, and edges to others, and to itself among them.
func busy(value int64) api.Vertex {
	return vertex(5, value, -1, 2, 5, 7, 9)
}

// says is messages to vertex 5 that say something, from vertices that don't count.
func says(v ...int64) []api.Message {
	var l []api.Message
	for i, n := range v {
		l = append(l, api.Message{From: 100 + int64(i), To: 5, At: 2 * i, V: n})
	}
	return l
}

// from is messages to vertex 5 from some vertices, that say something that does not count.
func from(ids ...int64) []api.Message {
	var l []api.Message
	for i, id := range ids {
		l = append(l, api.Message{From: id, To: 5, At: i, V: id + 100})
	}
	return l
}

// sends is messages from vertex 5, at the places from 0 on: the end, and what it says.
func sends(pairs ...[2]int64) []api.Message {
	var l []api.Message
	for i, pair := range pairs {
		l = append(l, api.Message{From: 5, To: pair[0], At: i, V: pair[1]})
	}
	return l
}

// tells is messages from vertex 5 that say the same to some ends.
func tells(v int64, ends ...int64) []api.Message {
	var l []api.Message
	for i, to := range ends {
		l = append(l, api.Message{From: 5, To: to, At: i, V: v})
	}
	return l
}

// asks is requests for edges to vertex 5 from some others, of the weight 0.
func asks(ids ...int64) []api.Mutation {
	var l []api.Mutation
	for _, id := range ids {
		l = append(l, api.Mutation{Kind: api.MutAddEdge, ID: id, To: 5})
	}
	return l
}

// begins tells whether a program's superstep 0 is a first value and edges back, whatever else there is.
func begins(t *testing.T, program string, first int64, params ...int64) {
	t.Helper()
	for _, value := range []int64{0, 5, 7, -7, greatest, least} {
		for _, l := range [][]api.Message{nil, {}, says(3), says(2, 7, greatest, 1), from(-1)} {
			for _, before := range []api.Aggregate{{}, had(0), had(1)} {
				in := api.Input{Vertex: busy(value), Messages: l, Before: before, Many: 6, Params: params}
				does(t, "with edges", program, in, api.Output{Value: first, Mutations: asks(-1, 2, 5, 7, 9)})
				in.Vertex = vertex(5, value)
				does(t, "without edges", program, in, api.Output{Value: first})
				in.Vertex = vertex(5, value, 5)
				does(t, "with an edge to itself alone", program, in, api.Output{Value: first, Mutations: asks(5)})
			}
		}
	}
}

// orders is messages in several orders.
func orders(l []api.Message) [][]api.Message {
	back := slices.Clone(l)
	slices.Reverse(back)
	all := [][]api.Message{l, back}
	for i := range l {
		all = append(all, slices.Concat(l[i:], l[:i]))
	}
	return all
}

// late is superstep numbers from one on.
func late(first int) []int {
	return []int{first, first + 1, first + 2, first + 3, 50, api.MaxSteps, math.MaxInt}
}
