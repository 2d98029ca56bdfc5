package kern_test

import (
	"slices"
	"testing"

	"cohort/api"
	"cohort/comb"
	"cohort/graph"
	"cohort/kern"
	"cohort/mut"
)

// play does supersteps of a program until all vertices have halted and no messages are there: the values, and how many were done.
func play(t *testing.T, program string, g api.Graph, params ...int64) ([]int64, int) {
	t.Helper()
	if e := kern.Check(program, g, params); e != api.OK {
		t.Fatal(program, params, e)
	}
	g = graph.Clone(g)
	box, halted := comb.New(), map[int64]int{}
	for step := range api.MaxSteps {
		var sent []api.Message
		var asked []api.Mutation
		active := 0
		for i, v := range g.Vertices {
			if halted[v.ID] == 1 && !box.Has(v.ID) {
				continue
			}
			active++
			l, e := comb.Combine(kern.Combiner(program), box.For(v.ID))
			if e != api.OK {
				t.Fatal(program, e)
			}
			out := kern.Step(program, api.Input{Step: step, Vertex: v, Messages: l, Many: len(g.Vertices), Params: params})
			if out.Err != api.OK {
				t.Fatal(program, out.Err)
			}
			halted[v.ID] = 0
			if out.Halt {
				halted[v.ID] = 1
			}
			g.Vertices[i].Value = out.Value
			sent, asked = append(sent, out.Sent...), append(asked, out.Mutations...)
		}
		if active == 0 {
			return values(g), step
		}
		g, _ = mut.Apply(g, asked)
		box = comb.New()
		box.Put(sent...)
	}
	t.Fatal(program, "does not end")
	return nil, 0
}

func values(g api.Graph) []int64 {
	var l []int64
	for _, v := range g.Vertices {
		l = append(l, v.Value)
	}
	return l
}

// comes tells whether a program comes to values in so many supersteps.
func comes(t *testing.T, program string, g api.Graph, params, want []int64, steps int) {
	t.Helper()
	if got, n := play(t, program, g, params...); !slices.Equal(got, want) || n != steps {
		t.Errorf("%s of %v: %v in %d, not %v in %d", program, g, got, n, want, steps)
	}
}

// path is 1 - 2 - 3, with edges both ways.
func path() api.Graph {
	return api.Graph{Vertices: []api.Vertex{{ID: 1, Edges: edges(1, 2)}, {ID: 2, Edges: edges(1, 1, 3)}, {ID: 3, Edges: edges(1, 2)}}}
}

// The document's example, and its ends.
func TestWholeBfs(t *testing.T) {
	comes(t, "bfs", path(), []int64{1}, []int64{0, 1, 2}, 4)
	comes(t, "bfs", path(), []int64{2}, []int64{1, 0, 1}, 3)
	oneWay := api.Graph{Vertices: []api.Vertex{{ID: 1, Edges: edges(1, 2)}, {ID: 2}, {ID: 3, Edges: edges(1, 2)}}}
	comes(t, "bfs", oneWay, []int64{1}, []int64{0, 1, -1}, 2)
	comes(t, "bfs", oneWay, []int64{2}, []int64{-1, 0, -1}, 1)
}

// A way of more edges may be the lighter one, and a value that was told is mended.
func TestWholeSssp(t *testing.T) {
	g := api.Graph{Vertices: []api.Vertex{
		{ID: 1, Edges: []api.Edge{{To: 2, Weight: 10}, {To: 3, Weight: 1}}},
		{ID: 2, Edges: []api.Edge{{To: 4, Weight: 1}}},
		{ID: 3, Edges: []api.Edge{{To: 2, Weight: 2}, {To: 3, Weight: 0}}},
		{ID: 4},
		{ID: 5, Edges: []api.Edge{{To: 1, Weight: 1}}},
	}}
	comes(t, "sssp", g, []int64{1}, []int64{0, 3, 1, 4, -1}, 4)
	comes(t, "sssp", g, []int64{4}, []int64{-1, -1, -1, 0, -1}, 1)
}

// The document's example of the whole: degree of 1 -> 2.
func TestWholeDegree(t *testing.T) {
	comes(t, "degree", api.Graph{Vertices: []api.Vertex{{ID: 1, Edges: edges(0, 2)}, {ID: 2}}}, nil, []int64{1, 1}, 2)
	comes(t, "degree", path(), nil, []int64{2, 4, 2}, 2)
	comes(t, "degree", api.Graph{Vertices: []api.Vertex{{ID: 1, Edges: edges(0, 1)}}}, nil, []int64{2}, 2)
	comes(t, "degree", api.Graph{}, nil, nil, 0)
}

// Ranks turn by turn, worked out by hand.
func TestWholePagerank(t *testing.T) {
	comes(t, "pagerank", path(), []int64{0}, []int64{333333, 333333, 333333}, 1)
	// 50000 and 85 hundredths of 166666, of 666666.
	comes(t, "pagerank", path(), []int64{1}, []int64{191666, 616666, 191666}, 2)
	// 50000 and 85 hundredths of 308333, of 383332.
	comes(t, "pagerank", path(), []int64{2}, []int64{312083, 375832, 312083}, 3)
	comes(t, "pagerank", api.Graph{Vertices: []api.Vertex{{ID: 1}}}, []int64{7}, []int64{150000}, 8)
}

// Components, whichever way the edges lead.
func TestWholeCc(t *testing.T) {
	comes(t, "cc", path(), nil, []int64{1, 1, 1}, 5)
	g := api.Graph{Vertices: []api.Vertex{
		{ID: -6}, {ID: 1}, {ID: 2, Edges: edges(4, 1)}, {ID: 3, Edges: edges(4, 9)}, {ID: 7, Edges: edges(4, 2)}, {ID: 9, Edges: edges(4, 9)},
	}}
	comes(t, "cc", g, nil, []int64{-6, 1, 1, 3, 1, 3}, 5)
}
