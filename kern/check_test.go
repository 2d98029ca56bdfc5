package kern_test

import (
	"slices"
	"testing"

	"cohort/api"
	"cohort/graph"
	"cohort/kern"
)

// some is a graph with edges that have weights of 0 and above, and a vertex without any.
func some() api.Graph {
	return api.Graph{Vertices: []api.Vertex{
		{ID: -4, Value: 50, Edges: []api.Edge{{To: 2, Weight: 0}, {To: 7, Weight: greatest}}},
		{ID: 0},
		{ID: 2, Value: -1, Edges: []api.Edge{{To: -4, Weight: 1}, {To: 2, Weight: 5}}},
		{ID: 7, Value: 3, Edges: []api.Edge{{To: 2, Weight: 8}}},
	}}
}

// sources is parameters, and whether they are a vertex of some.
func sources() map[api.Errno][][]int64 {
	return map[api.Errno][][]int64{
		api.OK: {{-4}, {0}, {2}, {7}},
		api.ErrParams: {nil, {}, {-5}, {-3}, {-1}, {1}, {3}, {6}, {8}, {50}, {least}, {greatest},
			{2, 2}, {2, 7}, {0, 0, 0}, {1, 2}, {2, 1}, {0, 0, 0, 0, 0}},
	}
}

// turns is parameters, and whether they are a number of turns.
func turns() map[api.Errno][][]int64 {
	return map[api.Errno][][]int64{
		api.OK:        {{0}, {1}, {50}, {99}, {100}},
		api.ErrParams: {nil, {}, {-1}, {-100}, {101}, {1000}, {least}, {greatest}, {0, 0}, {5, 5}, {100, 101}, {1, 2, 3, 4, 5}},
	}
}

// nothings is parameters, and whether they are none.
func nothings() map[api.Errno][][]int64 {
	return map[api.Errno][][]int64{
		api.OK:        {nil, {}},
		api.ErrParams: {{0}, {-1}, {2}, {0, 0}, {1, 2, 3, 4, 5}},
	}
}

// checks asks for each list of parameters, and whether it is as it was.
func checks(t *testing.T, what string, cases map[api.Errno][][]int64, ask func([]int64) api.Errno) {
	t.Helper()
	for want, lists := range cases {
		for _, l := range lists {
			before := slices.Clone(l)
			if got := ask(l); got != want {
				t.Errorf("%s: parameters %v: %d, not %d", what, l, got, want)
			}
			if !slices.Equal(l, before) {
				t.Errorf("%s: parameters %v became %v", what, before, l)
			}
		}
	}
}

// Promise 7.1.
func TestSource(t *testing.T) {
	g := some()
	checks(t, "source", sources(), func(l []int64) api.Errno { return kern.Source(g, l) })
	if !graph.Same(g, some()) {
		t.Error("the graph became", g)
	}
	for _, l := range [][]int64{nil, {}, {0}, {1}, {0, 0}} {
		if e := kern.Source(api.Graph{}, l); e != api.ErrParams {
			t.Error("of the graph without vertices", l, e)
		}
	}
	// A weight below 0 is not Source's to see.
	g.Vertices[0].Edges[0].Weight = -1
	if e := kern.Source(g, []int64{2}); e != api.OK {
		t.Error(e)
	}
}

// Promise 7.1.
func TestTurns(t *testing.T) {
	checks(t, "turns", turns(), kern.Turns)
}

// Promise 7.1.
func TestNone(t *testing.T) {
	checks(t, "none", nothings(), kern.None)
}

// Promise 7.1: each of the five programs has its own check.
func TestCheck(t *testing.T) {
	g := some()
	cases := map[string]map[api.Errno][][]int64{
		"bfs": sources(), "sssp": sources(), "pagerank": turns(), "degree": nothings(), "cc": nothings(),
	}
	for _, name := range five() {
		checks(t, name, cases[name], func(l []int64) api.Errno { return kern.Check(name, g, l) })
	}
	if !graph.Same(g, some()) {
		t.Error("the graph became", g)
	}
}

// Promise 7.1: of the graph without vertices there is no source; all else does not ask for one.
func TestCheckEmptyGraph(t *testing.T) {
	for _, name := range []string{"bfs", "sssp"} {
		for _, l := range [][]int64{nil, {0}, {1}} {
			if e := kern.Check(name, api.Graph{}, l); e != api.ErrParams {
				t.Error(name, l, e)
			}
		}
	}
	for _, e := range []api.Errno{kern.Check("pagerank", api.Graph{}, []int64{3}), kern.Check("cc", api.Graph{}, nil),
		kern.Check("degree", api.Graph{}, nil)} {
		if e != api.OK {
			t.Error(e)
		}
	}
}

// Promise 7.1: for sssp, and for it alone, no weight may be below 0, wherever it stands.
func TestCheckWeights(t *testing.T) {
	params := map[string][]int64{"bfs": {2}, "sssp": {2}, "pagerank": {2}}
	for i, v := range some().Vertices {
		for k := range v.Edges {
			for _, weight := range []int64{-1, least} {
				g := some()
				g.Vertices[i].Edges[k].Weight = weight
				for _, name := range five() {
					want := api.OK
					if name == "sssp" {
						want = api.ErrParams
					}
					if e := kern.Check(name, g, params[name]); e != want {
						t.Errorf("%s: weight %d of %d: %d, not %d", name, weight, v.ID, e, want)
					}
				}
			}
		}
	}
}

// Promise 7.1: a program that is none of the five is told ahead of parameters that may not be.
func TestCheckUnknown(t *testing.T) {
	for _, name := range slices.Concat(later(), strangers()) {
		for _, l := range [][]int64{nil, {}, {2}, {3}, {-1}, {101}, {1, 2, 3, 4, 5}} {
			for _, g := range []api.Graph{{}, some()} {
				if e := kern.Check(name, g, l); e != api.ErrProgram {
					t.Errorf("%q with %v: %d", name, l, e)
				}
			}
		}
	}
}
