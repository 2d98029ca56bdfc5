package kern_test

import (
	"math"
	"slices"
	"testing"

	"cohort/api"
	"cohort/kern"
)

const (
	least    = math.MinInt64
	greatest = math.MaxInt64
)

// all is the names of all programs, as the document has them.
func all() []string {
	return []string{"bfs", "cc", "colors", "degree", "kcore", "labels", "matching", "pagerank", "sssp", "triangles"}
}

// five is the names of this layer's programs.
func five() []string {
	return []string{"bfs", "cc", "degree", "pagerank", "sssp"}
}

// strangers is names that are none of all programs.
func strangers() []string {
	return []string{"", " ", "bf", "bfss", "BFS", "Bfs", "bfs ", " bfs", "bfs\x00", "ccc", "c", "degrees", "pagerank0", "page rank",
		"SSSP", "sssp\n", "color", "k-core", "none", "\xff", "bfs,cc"}
}

// later is the names of programs that the next layer has.
func later() []string {
	return []string{"colors", "kcore", "labels", "matching", "triangles"}
}

// edges is edges to some ends, all with one weight.
func edges(weight int64, ends ...int64) []api.Edge {
	var l []api.Edge
	for _, to := range ends {
		l = append(l, api.Edge{To: to, Weight: weight})
	}
	return l
}

// The numbers that the document tells.
func TestNumbers(t *testing.T) {
	if api.ErrProgram != 70 || api.ErrParams != 71 || api.Scale != 1000000 {
		t.Error(api.ErrProgram, api.ErrParams, api.Scale)
	}
}

// Promise 7.1: all ten names, and what is told is the caller's own.
func TestPrograms(t *testing.T) {
	got := kern.Programs()
	if !slices.Equal(got, all()) {
		t.Fatal(got)
	}
	for i := range got {
		got[i] = "none"
	}
	_ = append(got[:0], "a", "b")
	if got := kern.Programs(); !slices.Equal(got, all()) {
		t.Error("what was told was changed, and the next answer is", got)
	}
}

// Promise 7.1: the five are known, and no others are.
func TestKnown(t *testing.T) {
	for _, name := range five() {
		if !kern.Known(name) {
			t.Errorf("%q is not known", name)
		}
	}
	for _, name := range slices.Concat(later(), strangers()) {
		if kern.Known(name) {
			t.Errorf("%q is known", name)
		}
	}
}

// Promise 7.1: the combiner of each of all ten, and none of others.
func TestCombiner(t *testing.T) {
	for name, want := range map[string]int{
		"bfs": api.CombMin, "sssp": api.CombMin, "cc": api.CombMin,
		"degree": api.CombSum, "pagerank": api.CombSum, "kcore": api.CombSum,
		"colors": api.CombNone, "labels": api.CombNone, "matching": api.CombNone, "triangles": api.CombNone,
	} {
		if got := kern.Combiner(name); got != want {
			t.Errorf("the combiner of %q is %d, not %d", name, got, want)
		}
	}
	for _, name := range strangers() {
		if got := kern.Combiner(name); got != api.CombNone {
			t.Errorf("the combiner of %q is %d", name, got)
		}
	}
}

// Promise 7.1: a message along each edge, in their order, at the places from 0 on.
func TestTo(t *testing.T) {
	for _, c := range []struct {
		what string
		v    api.Vertex
		says int64
		want []api.Message
	}{
		{"without edges", api.Vertex{ID: 7}, 5, nil},
		{"with a list of none", api.Vertex{ID: 7, Edges: []api.Edge{}}, 5, nil},
		{"one", api.Vertex{ID: 7, Value: 9, Edges: edges(3, 2)}, 5, []api.Message{{From: 7, To: 2, V: 5}}},
		{"itself among others", api.Vertex{ID: 4, Edges: edges(-3, -1, 4, 9)}, -8,
			[]api.Message{{From: 4, To: -1, V: -8}, {From: 4, To: 4, At: 1, V: -8}, {From: 4, To: 9, At: 2, V: -8}}},
		{"in the edges' order, whatever it is", api.Vertex{ID: 0, Edges: edges(0, 9, 1, 9)}, 0,
			[]api.Message{{To: 9}, {To: 1, At: 1}, {To: 9, At: 2}}},
		{"at both ends", api.Vertex{ID: least, Edges: edges(1, least, greatest)}, greatest,
			[]api.Message{{From: least, To: least, V: greatest}, {From: least, To: greatest, At: 1, V: greatest}}},
	} {
		// What else a vertex is given does not count.
		in := api.Input{Step: 3, Vertex: c.v, Halted: true, Messages: []api.Message{{V: 77}}, Many: 4, Params: []int64{6}}
		before := clone(in)
		got := kern.To(in, c.says)
		if !slices.Equal(got, c.want) {
			t.Errorf("%s: %v, not %v", c.what, got, c.want)
		}
		for i := range got {
			got[i] = api.Message{From: -99, To: -99, At: -99, V: -99}
		}
		if again := kern.To(in, c.says); !slices.Equal(again, c.want) {
			t.Errorf("%s: what was told was changed, and the next answer is %v", c.what, again)
		}
		untouched(t, c.what, in, before)
	}
}

// Promise 7.1: a request for an edge from each neighbour, with the weight 0.
func TestBack(t *testing.T) {
	ask := func(id, to int64) api.Mutation { return api.Mutation{Kind: api.MutAddEdge, ID: id, To: to} }
	for _, c := range []struct {
		what string
		v    api.Vertex
		want []api.Mutation
	}{
		{"without edges", api.Vertex{ID: 7, Value: 3}, nil},
		{"with a list of none", api.Vertex{ID: 7, Edges: []api.Edge{}}, nil},
		{"one", api.Vertex{ID: 7, Value: 3, Edges: edges(5, 2)}, []api.Mutation{ask(2, 7)}},
		{"itself among others", api.Vertex{ID: 4, Edges: edges(-3, -1, 4, 9)}, []api.Mutation{ask(-1, 4), ask(4, 4), ask(9, 4)}},
		{"in the edges' order, whatever it is", api.Vertex{ID: 0, Edges: edges(1, 9, 1)}, []api.Mutation{ask(9, 0), ask(1, 0)}},
		{"at both ends", api.Vertex{ID: greatest, Edges: edges(1, least, greatest)}, []api.Mutation{ask(least, greatest), ask(greatest, greatest)}},
	} {
		in := api.Input{Step: 3, Vertex: c.v, Halted: true, Messages: []api.Message{{V: 77}}, Many: 4, Params: []int64{6}}
		before := clone(in)
		got := kern.Back(in)
		if !slices.Equal(got, c.want) {
			t.Errorf("%s: %v, not %v", c.what, got, c.want)
		}
		for i := range got {
			got[i] = api.Mutation{Kind: -99, ID: -99, To: -99, V: -99}
		}
		if again := kern.Back(in); !slices.Equal(again, c.want) {
			t.Errorf("%s: what was told was changed, and the next answer is %v", c.what, again)
		}
		untouched(t, c.what, in, before)
	}
}
