package kern_test

import (
	"math"
	"slices"
	"testing"

	"cohort/api"
	"cohort/graph"
	"cohort/kern"
)

// clone is an input of its own.
func clone(in api.Input) api.Input {
	in.Vertex.Edges = slices.Clone(in.Vertex.Edges)
	in.Messages = slices.Clone(in.Messages)
	in.Params = slices.Clone(in.Params)
	return in
}

// untouched tells whether what was handed in is as it was.
func untouched(t *testing.T, what string, in, before api.Input) {
	t.Helper()
	one, two := api.Graph{Vertices: []api.Vertex{in.Vertex}}, api.Graph{Vertices: []api.Vertex{before.Vertex}}
	if !graph.Same(one, two) || !slices.Equal(in.Messages, before.Messages) || !slices.Equal(in.Params, before.Params) {
		t.Errorf("%s: what was handed in became %v, not %v", what, in, before)
	}
}

// sameOutput tells whether two outputs are the same; a list that is nil and one that is empty are.
func sameOutput(a, b api.Output) bool {
	return a.Value == b.Value && a.Halt == b.Halt && a.Err == b.Err && a.Agg == b.Agg &&
		slices.Equal(a.Sent, b.Sent) && slices.Equal(a.Mutations, b.Mutations)
}

// spoil changes all that a vertex was given.
func spoil(in api.Input) {
	for i := range in.Vertex.Edges {
		in.Vertex.Edges[i] = api.Edge{To: -99, Weight: -99}
	}
	for i := range in.Messages {
		in.Messages[i] = api.Message{From: -99, To: -99, At: -99, V: -99}
	}
	for i := range in.Params {
		in.Params[i] = -99
	}
}

// does tells whether a step is that, hangs on nothing that does not count, and leaves what was handed in as it was.
func does(t *testing.T, what, program string, in api.Input, want api.Output) {
	t.Helper()
	before := clone(in)
	got := kern.Step(program, in)
	if !sameOutput(got, want) {
		t.Errorf("%s, %s: %+v, not %+v", program, what, got, want)
	}
	untouched(t, what, in, before)
	for i := range got.Sent {
		got.Sent[i] = api.Message{From: -99, To: -99, At: -99, V: -99}
	}
	for i := range got.Mutations {
		got.Mutations[i] = api.Mutation{Kind: -99, ID: -99, To: -99, V: -99}
	}
	untouched(t, what+", once the answer was changed", in, before)

	other := clone(in)
	other.Halted = true
	for kind := range api.Aggs {
		other.Before.Has[kind], other.Before.V[kind] = true, 7
	}
	again := kern.Step(program, other)
	spoil(other)
	if !sameOutput(again, want) {
		t.Errorf("%s, %s, again: %+v, not %+v", program, what, again, want)
	}
}

// to is messages from a vertex, at the places from 0 on: the end, and what it says.
func to(from int64, pairs ...[2]int64) []api.Message {
	var l []api.Message
	for i, pair := range pairs {
		l = append(l, api.Message{From: from, To: pair[0], At: i, V: pair[1]})
	}
	return l
}

// heard is messages that came to a vertex.
func heard(v ...int64) []api.Message {
	var l []api.Message
	for i, n := range v {
		l = append(l, api.Message{From: int64(i) - 1, To: 5, At: 2 * i, V: n})
	}
	return l
}

// busy is vertex 5 with a value, and edges to 2, to itself and to 9, with the weights 4, 0 and 6.
func busy(value int64) api.Vertex {
	return api.Vertex{ID: 5, Value: value, Edges: []api.Edge{{To: 2, Weight: 4}, {To: 5, Weight: 0}, {To: 9, Weight: 6}}}
}

// tell is what vertex 5 sends, where it tells all neighbours the same.
func tell(v int64) []api.Message {
	return to(5, [2]int64{2, v}, [2]int64{5, v}, [2]int64{9, v})
}

// alone is vertex 5 without edges.
func alone(value int64) api.Vertex {
	return api.Vertex{ID: 5, Value: value}
}

// halts is a vertex that has a value, and sends something.
func halts(value int64, sent []api.Message) api.Output {
	return api.Output{Value: value, Halt: true, Sent: sent}
}

// gives is what degree gives to aggregators.
func gives(v int64) api.Aggregate {
	return api.Aggregate{Has: [api.Aggs]bool{api.AggSum: true, api.AggMax: true}, V: [api.Aggs]int64{api.AggSum: v, api.AggMax: v}}
}

// overflow is an output of which all but the error is zero.
func overflow() api.Output {
	return api.Output{Err: api.ErrOverflow}
}

// Promise 7.2: degree, superstep 0: how many edges, whatever the value was and whatever messages there are.
func TestDegreeFirst(t *testing.T) {
	for _, value := range []int64{0, 7, -7, greatest, least} {
		for _, l := range [][]api.Message{nil, {}, heard(3), heard(greatest, 1)} {
			in := api.Input{Vertex: busy(value), Messages: l, Many: 3}
			does(t, "three edges", "degree", in, api.Output{Value: 3, Halt: true, Sent: tell(1), Agg: gives(3)})
			in = api.Input{Vertex: alone(value), Messages: l, Many: 3}
			does(t, "no edges", "degree", in, api.Output{Halt: true, Agg: gives(0)})
		}
	}
}

// Promise 7.2: degree, later: messages are added, and nothing is sent or given.
func TestDegreeLater(t *testing.T) {
	for _, step := range []int{1, 2, 3, 50, api.MaxSteps, math.MaxInt} {
		for _, c := range []struct {
			value int64
			l     []api.Message
			want  api.Output
		}{
			{3, nil, halts(3, nil)},
			{3, []api.Message{}, halts(3, nil)},
			{3, heard(4), halts(7, nil)},
			{0, heard(1), halts(1, nil)},
			{-2, heard(-5), halts(-7, nil)},
			{3, heard(1, 1, 1, 1), halts(7, nil)},
			{3, heard(10, -4, 0), halts(9, nil)},
			{greatest - 4, heard(4), halts(greatest, nil)},
			{least + 4, heard(-4), halts(least, nil)},
			{greatest - 4, heard(5), overflow()},
			{least + 4, heard(-5), overflow()},
			{0, heard(greatest, 1), overflow()},
			{-5, heard(greatest, 1), overflow()},
			{0, heard(least, -1), overflow()},
		} {
			does(t, "later", "degree", api.Input{Step: step, Vertex: busy(c.value), Messages: c.l, Many: 3}, c.want)
			does(t, "later, no edges", "degree", api.Input{Step: step, Vertex: alone(c.value), Messages: c.l, Many: 3}, c.want)
		}
	}
}

// Promise 7.2: bfs, superstep 0: the source has 0 and tells 1; others have -1.
func TestBfsFirst(t *testing.T) {
	for _, value := range []int64{0, 7, -7, greatest, least} {
		for _, l := range [][]api.Message{nil, heard(3)} {
			in := api.Input{Vertex: busy(value), Messages: l, Many: 3, Params: []int64{5}}
			does(t, "the source", "bfs", in, halts(0, tell(1)))
			in = api.Input{Vertex: alone(value), Messages: l, Many: 3, Params: []int64{5}}
			does(t, "the source, no edges", "bfs", in, halts(0, nil))
			for _, source := range []int64{0, 2, 9, -5, least, greatest} {
				in = api.Input{Vertex: busy(value), Messages: l, Many: 3, Params: []int64{source}}
				does(t, "another one", "bfs", in, halts(-1, nil))
			}
		}
	}
}

// Promise 7.2: bfs, later: who has a value below 0 has the superstep's number; others keep theirs and tell nothing.
func TestBfsLater(t *testing.T) {
	for _, step := range []int{1, 2, 3, 50, api.MaxSteps, math.MaxInt - 1} {
		n := int64(step)
		for _, l := range [][]api.Message{heard(n), heard(n, n), heard(n + 1), heard(0), nil} {
			for _, source := range []int64{5, 2} {
				for _, value := range []int64{-1, -2, least} {
					in := api.Input{Step: step, Vertex: busy(value), Messages: l, Many: 3, Params: []int64{source}}
					does(t, "new", "bfs", in, halts(n, tell(n+1)))
					in.Vertex = alone(value)
					does(t, "new, no edges", "bfs", in, halts(n, nil))
				}
				for _, value := range []int64{0, 1, n, n + 1, greatest} {
					in := api.Input{Step: step, Vertex: busy(value), Messages: l, Many: 3, Params: []int64{source}}
					does(t, "not new", "bfs", in, halts(value, nil))
				}
			}
		}
	}
}

// Promise 7.2: bfs where the number of the next superstep has no room.
func TestBfsNoRoom(t *testing.T) {
	in := api.Input{Step: math.MaxInt, Vertex: busy(-1), Messages: heard(1), Many: 3, Params: []int64{2}}
	does(t, "nobody can be told", "bfs", in, overflow())
	in.Vertex = alone(-1)
	does(t, "nobody is told", "bfs", in, halts(math.MaxInt, nil))
}

// Promise 7.2: sssp, superstep 0: the source has 0 and tells the weights; others have -1.
func TestSsspFirst(t *testing.T) {
	weights := to(5, [2]int64{2, 4}, [2]int64{5, 0}, [2]int64{9, 6})
	for _, value := range []int64{0, 7, -7, greatest, least} {
		for _, l := range [][]api.Message{nil, heard(3)} {
			in := api.Input{Vertex: busy(value), Messages: l, Many: 3, Params: []int64{5}}
			does(t, "the source", "sssp", in, halts(0, weights))
			in = api.Input{Vertex: alone(value), Messages: l, Many: 3, Params: []int64{5}}
			does(t, "the source, no edges", "sssp", in, halts(0, nil))
			for _, source := range []int64{0, 2, 9, -5, least, greatest} {
				in = api.Input{Vertex: busy(value), Messages: l, Many: 3, Params: []int64{source}}
				does(t, "another one", "sssp", in, halts(-1, nil))
			}
		}
	}
	far := api.Vertex{ID: 5, Edges: edges(greatest, 1, 2)}
	does(t, "the greatest weights", "sssp", api.Input{Vertex: far, Params: []int64{5}}, halts(0, to(5, [2]int64{1, greatest}, [2]int64{2, greatest})))
}

// Promise 7.2: sssp, later: the least message, if it is less, or there is no value yet, is the value, and is told with the weights.
func TestSsspLater(t *testing.T) {
	for _, step := range []int{1, 2, 3, 50, api.MaxSteps, math.MaxInt} {
		for _, c := range []struct {
			value int64
			l     []api.Message
			want  int64
			fresh bool
		}{
			{-1, nil, -1, false},
			{-1, []api.Message{}, -1, false},
			{0, nil, 0, false},
			{8, nil, 8, false},
			{-1, heard(3), 3, true},
			{-1, heard(0), 0, true},
			{-9, heard(3), 3, true},
			{least, heard(3), 3, true},
			{8, heard(7), 7, true},
			{8, heard(0), 0, true},
			{8, heard(8), 8, false},
			{8, heard(9), 8, false},
			{0, heard(0), 0, false},
			{0, heard(1), 0, false},
			{8, heard(9, 3, 5), 3, true},
			{8, heard(2, 3, 5), 2, true},
			{8, heard(9, 10, 8), 8, false},
			{-1, heard(9, 10, 8), 8, true},
			{greatest, heard(greatest - 6), greatest - 6, true},
		} {
			want := halts(c.want, nil)
			if c.fresh {
				want.Sent = to(5, [2]int64{2, c.want + 4}, [2]int64{5, c.want}, [2]int64{9, c.want + 6})
			}
			// The source is one as all others behind superstep 0.
			for _, source := range []int64{5, 2} {
				in := api.Input{Step: step, Vertex: busy(c.value), Messages: c.l, Many: 3, Params: []int64{source}}
				does(t, "later", "sssp", in, want)
				in.Vertex = alone(c.value)
				does(t, "later, no edges", "sssp", in, halts(c.want, nil))
			}
		}
	}
}

// Promise 7.2: sssp where a sum has no room, at the first edge or at the last; with the error all else is zero.
func TestSsspNoRoom(t *testing.T) {
	in := api.Input{Step: 1, Many: 3, Params: []int64{2}}
	in.Vertex, in.Messages = busy(-1), heard(greatest-5)
	does(t, "at the last edge", "sssp", in, overflow())
	in.Messages = heard(greatest)
	does(t, "at the first edge", "sssp", in, overflow())
	in.Vertex = busy(greatest - 5)
	does(t, "not told, as it is not new", "sssp", in, halts(greatest-5, nil))
	in.Vertex = alone(-1)
	does(t, "not told, as there are no neighbours", "sssp", in, halts(greatest, nil))
	in.Vertex = api.Vertex{ID: 5, Value: -1, Edges: edges(0, 2)}
	does(t, "just room", "sssp", in, halts(greatest, to(5, [2]int64{2, greatest})))
}

// Promise 7.2: pagerank, superstep 0: Scale over how many there are.
func TestPagerankFirst(t *testing.T) {
	for many, want := range map[int]int64{1: 1000000, 2: 500000, 3: 333333, 7: 142857, 256: 3906, 1000000: 1, 1000001: 0,
		0: 1000000, -1: 1000000, -7: 1000000, math.MaxInt: 0, math.MinInt: 1000000} {
		for _, value := range []int64{0, 7, least} {
			for _, l := range [][]api.Message{nil, heard(300), heard(greatest, 1)} {
				in := api.Input{Vertex: busy(value), Messages: l, Many: many, Params: []int64{0}}
				does(t, "no turns", "pagerank", in, halts(want, nil))
				for _, turns := range []int64{1, 2, 100} {
					in.Params = []int64{turns}
					in.Vertex = busy(value)
					does(t, "turns to come", "pagerank", in, api.Output{Value: want, Sent: tell(want / 3)})
					in.Vertex = alone(value)
					does(t, "turns to come, no edges", "pagerank", in, api.Output{Value: want})
				}
			}
		}
	}
}

// Promise 7.2: pagerank, later: what each has, and 85 hundredths of what came, each towards 0; it halts from superstep turns on.
func TestPagerankLater(t *testing.T) {
	for _, c := range []struct {
		many int
		l    []api.Message
		want int64
	}{
		{3, nil, 50000},
		{3, []api.Message{}, 50000},
		{1, nil, 150000},
		{0, nil, 150000},
		{-3, nil, 150000},
		{7, nil, 21428},
		{256, nil, 585},
		{150000, nil, 1},
		{150001, nil, 0},
		{math.MaxInt, nil, 0},
		{3, heard(1), 50000},
		{3, heard(2), 50001},
		{3, heard(100), 50085},
		{3, heard(333333), 333333},
		// Of the sum, and not of each message.
		{3, heard(1, 1), 50001},
		{3, heard(199, 1), 50170},
		// Towards 0 each, not of both as one: 21428 4/7, and 4 1/4.
		{7, heard(5), 21432},
		{7, heard(1), 21428},
		{3, heard(-1), 50000},
		{3, heard(-3), 49998},
		// The product between has room, as constants have.
		{1, heard(1 << 62), 150000 + (1<<62)*85/100},
		{1, heard(greatest), 150000 + greatest*85/100},
		{1, heard(least), 150000 + least*85/100},
	} {
		for _, value := range []int64{0, 77, least} {
			for turns := range int64(5) {
				for _, step := range []int{1, 2, 3, 4, 5, api.MaxSteps, math.MaxInt} {
					want, single := api.Output{Value: c.want, Sent: tell(c.want / 3)}, api.Output{Value: c.want}
					if int64(step) >= turns {
						want, single = halts(c.want, nil), halts(c.want, nil)
					}
					in := api.Input{Step: step, Vertex: busy(value), Messages: c.l, Many: c.many, Params: []int64{turns}}
					does(t, "later", "pagerank", in, want)
					in.Vertex = alone(value)
					does(t, "later, no edges", "pagerank", in, single)
				}
			}
		}
	}
}

// Promise 7.2: pagerank with as many turns as there may be.
func TestPagerankMostTurns(t *testing.T) {
	in := api.Input{Step: 99, Vertex: busy(8), Many: 3, Params: []int64{100}}
	does(t, "ahead of the last superstep", "pagerank", in, api.Output{Value: 50000, Sent: tell(16666)})
	for _, step := range []int{100, 101} {
		in.Step = step
		does(t, "from the last superstep on", "pagerank", in, halts(50000, nil))
	}
}

// Promise 7.2: pagerank where what came has no room: all else is zero, whether it would halt or not.
func TestPagerankNoRoom(t *testing.T) {
	for _, turns := range []int64{0, 1, 2, 100} {
		for _, l := range [][]api.Message{heard(greatest, 1), heard(least, -1), heard(1<<62, 1<<62, -1)} {
			in := api.Input{Step: 1, Vertex: busy(1), Messages: l, Many: 3, Params: []int64{turns}}
			does(t, "no room", "pagerank", in, overflow())
		}
	}
}

// Promise 7.2: cc, superstep 0: its number, edges back, and it does not halt; superstep 1: it tells its number.
func TestCcFirst(t *testing.T) {
	var back []api.Mutation
	for _, id := range []int64{2, 5, 9} {
		back = append(back, api.Mutation{Kind: api.MutAddEdge, ID: id, To: 5})
	}
	for _, value := range []int64{0, 5, 7, -7, greatest, least} {
		for _, l := range [][]api.Message{nil, {}, heard(3), heard(least)} {
			in := api.Input{Vertex: busy(value), Messages: l, Many: 3}
			does(t, "superstep 0", "cc", in, api.Output{Value: 5, Mutations: back})
			in.Vertex = alone(value)
			does(t, "superstep 0, no edges", "cc", in, api.Output{Value: 5})
		}
	}
	does(t, "superstep 1", "cc", api.Input{Step: 1, Vertex: busy(5), Many: 3}, halts(5, tell(5)))
	does(t, "superstep 1, no edges", "cc", api.Input{Step: 1, Vertex: alone(5), Many: 3}, halts(5, nil))
	does(t, "superstep 1, with messages", "cc", api.Input{Step: 1, Vertex: busy(5), Messages: heard(3), Many: 3}, halts(5, tell(5)))
	does(t, "superstep 1, with another value", "cc", api.Input{Step: 1, Vertex: busy(8), Many: 3}, halts(8, tell(5)))
}

// Promise 7.2: cc, later: the least of its value and its messages, told where it is less than the value.
func TestCcLater(t *testing.T) {
	for _, step := range []int{2, 3, 50, api.MaxSteps, math.MaxInt} {
		for _, c := range []struct {
			value int64
			l     []api.Message
			want  int64
		}{
			{5, nil, 5},
			{5, []api.Message{}, 5},
			{5, heard(5), 5},
			{5, heard(6), 5},
			{5, heard(greatest), 5},
			{5, heard(9, 5, 6), 5},
			{5, heard(4), 4},
			{5, heard(0), 0},
			{5, heard(-8), -8},
			{5, heard(least), least},
			{5, heard(9, 2, 3), 2},
			{5, heard(1, 2, 3), 1},
			{5, heard(3, 2, 1), 1},
			{-3, heard(-2), -3},
			{-3, heard(-4), -4},
			{0, nil, 0},
			{-3, nil, -3},
			{3, heard(4), 3},
			{least, heard(least, greatest), least},
		} {
			want := halts(c.want, nil)
			if c.want < c.value {
				want.Sent = tell(c.want)
			}
			does(t, "later", "cc", api.Input{Step: step, Vertex: busy(c.value), Messages: c.l, Many: 3}, want)
			does(t, "later, no edges", "cc", api.Input{Step: step, Vertex: alone(c.value), Messages: c.l, Many: 3}, halts(c.want, nil))
		}
	}
}

// Promise 7.2: a program that is none of the five does nothing but tell so.
func TestStepUnknown(t *testing.T) {
	for _, name := range slices.Concat(later(), strangers()) {
		for _, step := range []int{0, 1, 2} {
			in := api.Input{Step: step, Vertex: busy(7), Messages: heard(3), Many: 3, Params: []int64{5}}
			does(t, "none of the five", name, in, api.Output{Err: api.ErrProgram})
			does(t, "none of the five, of nothing", name, api.Input{Step: step}, api.Output{Err: api.ErrProgram})
		}
	}
}

// Rule R1: a step ends, and does not panic, also where something is not as it must be; with an error all else is zero.
func TestStepAnything(t *testing.T) {
	lists := [][]int64{nil, {}, {-1}, {5}, {101}, {least}, {greatest}, {5, 6}}
	for _, name := range slices.Concat(all(), strangers()) {
		for _, step := range []int{math.MinInt, -1, 0, 1, 2, 3, math.MaxInt} {
			for _, params := range lists {
				for _, l := range [][]api.Message{nil, heard(greatest, greatest), heard(least, least), heard(-1)} {
					for _, v := range []api.Vertex{{}, busy(least), busy(greatest), {ID: 5, Value: -1, Edges: edges(least, 9, 9, 1)}} {
						in := api.Input{Step: step, Vertex: v, Messages: l, Many: step, Params: params}
						out := kern.Step(name, in)
						if out.Err != api.OK && !sameOutput(out, api.Output{Err: out.Err}) {
							t.Errorf("%s of %v: %+v", name, in, out)
						}
					}
				}
			}
		}
	}
}
