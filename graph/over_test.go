package graph_test

import (
	"math"
	"slices"
	"testing"

	"cohort/api"
	"cohort/graph"
)

// from is an edge, and where it begins.
type from struct {
	id int64
	e  api.Edge
}

// all is what goes by as All goes over a graph, up to so many.
func all(seq func(func(int64, api.Edge) bool), most int) []from {
	l := []from{}
	if most == 0 {
		return l
	}
	for id, e := range seq {
		l = append(l, from{id, e})
		if len(l) == most {
			break
		}
	}
	return l
}

// listed is all edges of a graph, by loops alone.
func listed(g api.Graph) []from {
	l := []from{}
	for _, v := range g.Vertices {
		for _, e := range v.Edges {
			l = append(l, from{v.ID, e})
		}
	}
	return l
}

// Promise 3.2.
func TestAll(t *testing.T) {
	g := of(
		api.Vertex{ID: -4, Value: 1},
		api.Vertex{ID: -1, Value: 2, Edges: []api.Edge{{To: -4, Weight: 6}, {To: -1}, {To: 5, Weight: -7}}},
		api.Vertex{ID: 0, Value: 3},
		api.Vertex{ID: 5, Value: 4, Edges: []api.Edge{{To: 0, Weight: greatest}}})
	want := []from{{-1, api.Edge{To: -4, Weight: 6}}, {-1, api.Edge{To: -1}}, {-1, api.Edge{To: 5, Weight: -7}},
		{5, api.Edge{To: 0, Weight: greatest}}}
	if got := all(graph.All(g), math.MaxInt); !slices.Equal(got, want) {
		t.Errorf("%v, not %v", got, want)
	}
	for _, x := range append(good(), bad()...) {
		before := deep(x.g)
		if got := all(graph.All(x.g), math.MaxInt); !slices.Equal(got, listed(x.g)) {
			t.Errorf("%s: other edges are gone over", x.name)
		}
		unchanged(t, x.name, x.g, before)
	}
}

// Promise 3.2: left off at each edge, and gone over again from the first on.
func TestAllLeftOff(t *testing.T) {
	g := of(to(1, 1, 2), to(2), to(3, 1, 2, 3), to(4, 4))
	want := listed(g)
	seq := graph.All(g)
	for n := range len(want) + 1 {
		if got := all(seq, n); !slices.Equal(got, want[:n]) {
			t.Errorf("left off behind %d: %v", n, got)
		}
		if got := all(seq, math.MaxInt); !slices.Equal(got, want) {
			t.Errorf("again, whole: %v", got)
		}
	}
}

// Promise 3.2: one that is gone over within another one.
func TestAllWithin(t *testing.T) {
	g := of(to(1, 1, 2), to(2, 1), to(3, 1, 2, 3))
	seq := graph.All(g)
	n, rounds := 0, 0
	for id, e := range seq {
		for other, f := range seq {
			if other == id && f == e {
				n++
				break
			}
			rounds++
		}
	}
	if n != 6 || rounds != 0+1+2+3+4+5 {
		t.Errorf("%d edges are met again, behind %d others", n, rounds)
	}
}

// Promise 3.2, R2: the graph may be changed later on.
func TestAllLater(t *testing.T) {
	g := of(to(1, 1, 2), to(2, 1), to(3, 1, 2, 3))
	want := listed(g)
	seq := graph.All(g)
	l := []from{}
	for id, e := range seq {
		l = append(l, from{id, e})
		spoil(g)
	}
	if !slices.Equal(l, want) {
		t.Errorf("changed while it is gone over: %v", l)
	}
	if got := all(seq, math.MaxInt); !slices.Equal(got, want) {
		t.Errorf("changed ahead of it: %v", got)
	}
}

// some is the vertices that go by, up to so many.
func some(seq func(func(api.Vertex) bool), most int) api.Graph {
	g := api.Graph{}
	if most == 0 {
		return g
	}
	for v := range seq {
		g.Vertices = append(g.Vertices, v)
		if len(g.Vertices) == most {
			break
		}
	}
	return g
}

// Promise 3.2.
func TestOf(t *testing.T) {
	g := of(to(-5, -5, 7), to(-4), to(-1, 3), to(0), to(3, 0), to(4), to(7, -1, 4, 7), to(11))
	for _, x := range []struct {
		part, parts int
		want        []int64
	}{
		{0, 4, []int64{-4, 0, 4}},
		{1, 4, nil},
		{2, 4, nil},
		{3, 4, []int64{-5, -1, 3, 7, 11}},
		{4, 4, nil},
		{-1, 4, nil},
		{0, 1, []int64{-5, -4, -1, 0, 3, 4, 7, 11}},
		{1, 1, nil},
		{0, 2, []int64{-4, 0, 4}},
		{1, 2, []int64{-5, -1, 3, 7, 11}},
		{0, 3, []int64{0, 3}},
		{1, 3, []int64{-5, 4, 7}},
		{2, 3, []int64{-4, -1, 11}},
		{math.MaxInt - 1, math.MaxInt, []int64{-1}},
		{math.MinInt, 4, nil},
		{math.MaxInt, 4, nil},
		// Where parts is below 1, each vertex is of partition 0.
		{0, 0, []int64{-5, -4, -1, 0, 3, 4, 7, 11}},
		{0, -3, []int64{-5, -4, -1, 0, 3, 4, 7, 11}},
		{1, 0, nil},
		{-1, -3, nil},
		{-2, -3, nil},
	} {
		want := api.Graph{}
		for _, id := range x.want {
			at := slices.IndexFunc(g.Vertices, func(v api.Vertex) bool { return v.ID == id })
			want.Vertices = append(want.Vertices, g.Vertices[at])
		}
		if got := some(graph.Of(g, x.part, x.parts), math.MaxInt); !equal(got, want) {
			t.Errorf("partition %d of %d: %v", x.part, x.parts, got)
		}
	}
	for range graph.Of(of(), 0, 1) {
		t.Error("a vertex of no graph")
	}
}

// Promise 3.2: each vertex is in one partition, and that is Part's.
func TestOfAllParts(t *testing.T) {
	for _, x := range append(good(), bad()...) {
		before := deep(x.g)
		for parts := 1; parts <= api.MaxParts; parts++ {
			n := 0
			for part := range parts {
				got := some(graph.Of(x.g, part, parts), math.MaxInt)
				want := api.Graph{}
				for _, v := range x.g.Vertices {
					if graph.Part(v.ID, parts) == part {
						want.Vertices = append(want.Vertices, v)
					}
				}
				if !equal(got, want) {
					t.Errorf("%s: partition %d of %d is another one", x.name, part, parts)
				}
				n += len(got.Vertices)
			}
			if n != len(x.g.Vertices) {
				t.Errorf("%s: %d vertices in %d partitions", x.name, n, parts)
			}
		}
		unchanged(t, x.name, x.g, before)
	}
}

// Promise 3.2: left off at each vertex, and gone over again from the first on.
func TestOfLeftOff(t *testing.T) {
	g := of(to(1, 1, 2), to(2), to(3, 1, 2, 3), to(5, 5), to(6), to(7))
	want := of(g.Vertices[0], g.Vertices[2], g.Vertices[3], g.Vertices[5])
	seq := graph.Of(g, 1, 2)
	for n := range len(want.Vertices) + 1 {
		if got := some(seq, n); !equal(got, of(want.Vertices[:n]...)) {
			t.Errorf("left off behind %d: %v", n, got)
		}
		if got := some(seq, math.MaxInt); !equal(got, want) {
			t.Errorf("again, whole: %v", got)
		}
	}
}

// Promise 3.2, R2: what is told is the caller's own, and the graph may be changed later on.
func TestOfLater(t *testing.T) {
	g := of(to(1, 1, 2), to(2), to(3, 1, 2, 3), to(5, 5))
	whole := deep(g)
	want := of(whole.Vertices[0], whole.Vertices[2], whole.Vertices[3])
	seq := graph.Of(g, 1, 2)
	told := some(seq, math.MaxInt)
	spoil(told)
	unchanged(t, "what was told is changed", g, whole)
	if got := some(seq, math.MaxInt); !equal(got, want) {
		t.Errorf("what was told is changed, and then told again: %v", got)
	}
	told = api.Graph{}
	for v := range seq {
		told.Vertices = append(told.Vertices, v)
		spoil(g)
	}
	if !equal(told, want) {
		t.Errorf("the graph is changed while it is gone over: %v", told)
	}
	if got := some(seq, math.MaxInt); !equal(got, want) {
		t.Errorf("the graph is changed ahead of it: %v", got)
	}
}
