package mut_test

import (
	"maps"
	"math/rand"
	"slices"
	"testing"

	"cohort/api"
	"cohort/graph"
	"cohort/mut"
)

// vertex has edges to some ends, with weights that tell them apart.
func vertex(id, value int64, ends ...int64) api.Vertex {
	v := api.Vertex{ID: id, Value: value}
	for _, to := range ends {
		v.Edges = append(v.Edges, api.Edge{To: to, Weight: id*10 + to})
	}
	return v
}

func graphOf(l ...api.Vertex) api.Graph {
	return api.Graph{Vertices: l}
}

// some is a graph with edges to and fro, one to its own vertex, and vertices without any.
func some() api.Graph {
	return graphOf(vertex(-4, 40, 2, 7), vertex(0, 0), vertex(2, 20, -4, 2, 9), vertex(7, -70, 2), vertex(9, 90))
}

// comes tells whether requests make that graph, with so many changes, and leave what was handed in as it was.
func comes(t *testing.T, what string, g api.Graph, l []api.Mutation, want api.Graph, n int) {
	t.Helper()
	g0, l0 := graph.Clone(g), slices.Clone(l)
	got, many := mut.Apply(g, l)
	if !graph.Same(got, want) || many != n {
		t.Errorf("%s: %v with %d changes, not %v with %d", what, got, many, want, n)
	}
	if !graph.Same(g, g0) {
		t.Errorf("%s: the graph that was handed in became %v", what, g)
	}
	same(t, what+", the requests that were handed in", l, l0)
}

// Promise 6.1: no requests.
func TestApplyNone(t *testing.T) {
	for _, l := range [][]api.Mutation{nil, {}} {
		comes(t, "none of a graph", some(), l, some(), 0)
		comes(t, "none of the graph without vertices", api.Graph{}, l, api.Graph{}, 0)
		comes(t, "none of one vertex", graphOf(vertex(5, 6)), l, graphOf(vertex(5, 6)), 0)
	}
}

// The document's example: the lesser of two weights, in whatever order they are handed in.
func TestApplyExample(t *testing.T) {
	g := graphOf(vertex(1, 0), vertex(2, 0))
	want := graphOf(api.Vertex{ID: 1, Edges: []api.Edge{{To: 2, Weight: 3}}}, vertex(2, 0))
	comes(t, "5 and 3", g, []api.Mutation{newEdge(1, 2, 5), newEdge(1, 2, 3)}, want, 1)
	comes(t, "3 and 5", g, []api.Mutation{newEdge(1, 2, 3), newEdge(1, 2, 5)}, want, 1)
}

// Promise 6.1: an edge goes, the first, the midst and the last one, and one to its own vertex.
func TestApplyDropEdge(t *testing.T) {
	g := graphOf(vertex(1, 10, 1, 2, 3), vertex(2, 20, 1, 3), vertex(3, 30))
	comes(t, "to its own vertex", g, []api.Mutation{dropEdge(1, 1)}, graphOf(vertex(1, 10, 2, 3), vertex(2, 20, 1, 3), vertex(3, 30)), 1)
	comes(t, "the midst one", g, []api.Mutation{dropEdge(1, 2)}, graphOf(vertex(1, 10, 1, 3), vertex(2, 20, 1, 3), vertex(3, 30)), 1)
	comes(t, "the last one", g, []api.Mutation{dropEdge(1, 3)}, graphOf(vertex(1, 10, 1, 2), vertex(2, 20, 1, 3), vertex(3, 30)), 1)
	comes(t, "of another vertex", g, []api.Mutation{dropEdge(2, 3)}, graphOf(vertex(1, 10, 1, 2, 3), vertex(2, 20, 1), vertex(3, 30)), 1)
	comes(t, "all of one", g, []api.Mutation{dropEdge(1, 1), dropEdge(1, 2), dropEdge(1, 3)},
		graphOf(vertex(1, 10), vertex(2, 20, 1, 3), vertex(3, 30)), 3)
	for _, m := range []api.Mutation{dropEdge(2, 2), dropEdge(3, 1), dropEdge(3, 2), dropEdge(1, 4), dropEdge(1, 0), dropEdge(4, 1),
		dropEdge(0, 1), dropEdge(least, greatest)} {
		comes(t, "one that is not there", g, []api.Mutation{m}, g, 0)
	}
}

// Promise 6.1: a vertex goes with its edges, and those that lead to it stay.
func TestApplyDropVertex(t *testing.T) {
	g := some()
	comes(t, "the first one", g, []api.Mutation{dropVertex(-4)}, graphOf(g.Vertices[1:]...), 1)
	comes(t, "the last one", g, []api.Mutation{dropVertex(9)}, graphOf(g.Vertices[:4]...), 1)
	comes(t, "one that others lead to", g, []api.Mutation{dropVertex(2)},
		graphOf(vertex(-4, 40, 2, 7), vertex(0, 0), vertex(7, -70, 2), vertex(9, 90)), 1)
	comes(t, "two", g, []api.Mutation{dropVertex(7), dropVertex(2)}, graphOf(vertex(-4, 40, 2, 7), vertex(0, 0), vertex(9, 90)), 2)
	comes(t, "all", g, []api.Mutation{dropVertex(7), dropVertex(2), dropVertex(-4), dropVertex(9), dropVertex(0)}, api.Graph{}, 5)
	for _, id := range []int64{-5, -1, 1, 3, 8, 10, least, greatest} {
		comes(t, "one that is not there", g, []api.Mutation{dropVertex(id)}, g, 0)
	}
}

// Promise 6.1: a vertex comes at its place, without edges, if none of its number is there.
func TestApplyNewVertex(t *testing.T) {
	g := some()
	for _, c := range []struct {
		id int64
		at int
	}{{least, 0}, {-5, 0}, {-3, 1}, {-1, 1}, {1, 2}, {3, 3}, {8, 4}, {10, 5}, {greatest, 5}} {
		want := graphOf(slices.Insert(some().Vertices, c.at, api.Vertex{ID: c.id, Value: -6})...)
		comes(t, "a new one", g, []api.Mutation{newVertex(c.id, -6)}, want, 1)
	}
	for _, id := range []int64{-4, 0, 2, 7, 9} {
		comes(t, "one that is there", g, []api.Mutation{newVertex(id, -6)}, g, 0)
	}
	comes(t, "one whose value is 0", g, []api.Mutation{newVertex(10, 0)}, graphOf(append(some().Vertices, api.Vertex{ID: 10})...), 1)
	comes(t, "several", graphOf(vertex(5, 1)), []api.Mutation{newVertex(9, greatest), newVertex(-1, least), newVertex(5, 2), newVertex(7, 3)},
		graphOf(vertex(-1, least), vertex(5, 1), vertex(7, 3), vertex(9, greatest)), 3)
}

// Promise 6.1: an edge comes at its place, if its vertex is there and none to that end, whether that end is there or not.
func TestApplyNewEdge(t *testing.T) {
	g := graphOf(vertex(1, 10, 3, 5), vertex(3, 30), vertex(5, 50, 5))
	edges := func(to ...int64) api.Graph {
		h := graph.Clone(g)
		h.Vertices[0].Edges = vertex(1, 10, to...).Edges
		return h
	}
	one := func(to int64) []api.Mutation { return []api.Mutation{newEdge(1, to, 10+to)} }
	comes(t, "ahead of others, to its own vertex", g, one(1), edges(1, 3, 5), 1)
	comes(t, "between others, to a vertex that is not there", g, one(4), edges(3, 4, 5), 1)
	comes(t, "behind others, to a vertex that is not there", g, one(6), edges(3, 5, 6), 1)
	comes(t, "ahead of others, to a vertex that is not there", g, one(-7), edges(-7, 3, 5), 1)
	comes(t, "several", g, slices.Concat(one(6), one(1), one(3), one(4)), edges(1, 3, 4, 5, 6), 3)
	first := graphOf(vertex(1, 10, 3, 5), vertex(3, 30, 1), vertex(5, 50, 5))
	comes(t, "of a vertex that has none", g, []api.Mutation{newEdge(3, 1, 31)}, first, 1)
	last := graphOf(vertex(1, 10, 3, 5), vertex(3, 30), api.Vertex{ID: 5, Value: 50, Edges: []api.Edge{{To: least, Weight: greatest},
		{To: 5, Weight: 55}, {To: greatest, Weight: least}}})
	comes(t, "at both ends", g, []api.Mutation{newEdge(5, greatest, least), newEdge(5, least, greatest)}, last, 2)
	for _, m := range []api.Mutation{newEdge(1, 3, 99), newEdge(1, 3, -99), newEdge(1, 5, 0), newEdge(5, 5, 1),
		newEdge(2, 1, 1), newEdge(2, 2, 1), newEdge(0, 1, 1), newEdge(least, 1, 1), newEdge(greatest, 1, 1)} {
		comes(t, "one that is there, or whose vertex is not", g, []api.Mutation{m}, g, 0)
	}
}

// Promise 6.1: of several for the same thing the first in their order counts alone, however they are handed in.
func TestApplyConflicts(t *testing.T) {
	g := graphOf(vertex(1, 10), vertex(2, 20, 1))
	comes(t, "vertices", g, []api.Mutation{newVertex(3, 8), newVertex(3, -8), newVertex(3, 0), newVertex(3, 8)},
		graphOf(vertex(1, 10), vertex(2, 20, 1), vertex(3, -8)), 1)
	comes(t, "edges", g, []api.Mutation{newEdge(1, 2, 4), newEdge(1, 2, greatest), newEdge(1, 2, least), newEdge(1, 2, 0)},
		graphOf(api.Vertex{ID: 1, Value: 10, Edges: []api.Edge{{To: 2, Weight: least}}}, vertex(2, 20, 1)), 1)
	comes(t, "the same edge goes twice", g, []api.Mutation{dropEdge(2, 1), dropEdge(2, 1)}, graphOf(vertex(1, 10), vertex(2, 20)), 1)
	comes(t, "the same vertex goes twice", g, []api.Mutation{dropVertex(1), dropVertex(1)}, graphOf(vertex(2, 20, 1)), 1)
	comes(t, "between others", g, []api.Mutation{newEdge(1, 2, 7), newEdge(1, 3, 1), newEdge(2, 2, 9), newEdge(1, 2, 5), newEdge(2, 2, 6)},
		graphOf(api.Vertex{ID: 1, Value: 10, Edges: []api.Edge{{To: 2, Weight: 5}, {To: 3, Weight: 1}}},
			api.Vertex{ID: 2, Value: 20, Edges: []api.Edge{{To: 1, Weight: 21}, {To: 2, Weight: 6}}}), 3)
	// Of a list that has an edge twice over, a request takes one, and a second one for the same does not count.
	twice := graphOf(vertex(1, 10, 2, 2, 2))
	if got, n := mut.Apply(twice, []api.Mutation{dropEdge(1, 2), dropEdge(1, 2)}); n != 1 || !graph.Same(got, graphOf(vertex(1, 10, 2, 2))) {
		t.Errorf("an edge that stands more than once: %v with %d changes", got, n)
	}
}

// Promise 6.1: an edge and its vertex go in one list: the edge first, so both count.
func TestApplyEdgeAndVertexGo(t *testing.T) {
	g := graphOf(vertex(1, 10, 1, 2), vertex(2, 20, 1))
	both := []api.Mutation{dropVertex(1), dropEdge(1, 2)}
	comes(t, "both", g, both, graphOf(vertex(2, 20, 1)), 2)
	comes(t, "and both of its edges", g, append(both, dropEdge(1, 1)), graphOf(vertex(2, 20, 1)), 3)
	comes(t, "and the one that leads to it", g, append(both, dropEdge(2, 1)), graphOf(vertex(2, 20)), 3)
}

// Promise 6.1: what goes may come again in one list, since what goes is done first.
func TestApplyGoesAndComes(t *testing.T) {
	g := graphOf(vertex(1, 10, 1, 2), vertex(2, 20, 1))
	again := []api.Mutation{newVertex(1, -5), dropVertex(1)}
	comes(t, "a vertex, without its edges", g, again, graphOf(vertex(1, -5), vertex(2, 20, 1)), 2)
	comes(t, "a vertex, and one of its edges", g, append(again, newEdge(1, 2, 12)), graphOf(vertex(1, -5, 2), vertex(2, 20, 1)), 3)
	comes(t, "a vertex, and an edge that went ahead of it", g, append(again, newEdge(1, 2, 12), dropEdge(1, 2)),
		graphOf(vertex(1, -5, 2), vertex(2, 20, 1)), 4)
	comes(t, "an edge, with another weight", g, []api.Mutation{newEdge(2, 1, -3), dropEdge(2, 1)},
		graphOf(vertex(1, 10, 1, 2), api.Vertex{ID: 2, Value: 20, Edges: []api.Edge{{To: 1, Weight: -3}}}), 2)
	comes(t, "a vertex goes, and no edge comes to it", g, []api.Mutation{newEdge(1, 3, 1), dropVertex(1)}, graphOf(vertex(2, 20, 1)), 1)
	comes(t, "a new vertex, and its edges", g, []api.Mutation{newEdge(3, 1, 31), newEdge(3, 9, 39), newVertex(3, 7)},
		graphOf(vertex(1, 10, 1, 2), vertex(2, 20, 1), vertex(3, 7, 1, 9)), 3)
	comes(t, "a vertex is not gone that comes behind it", g, []api.Mutation{newVertex(3, 7), dropVertex(3)},
		graphOf(vertex(1, 10, 1, 2), vertex(2, 20, 1), vertex(3, 7)), 1)
	comes(t, "nor an edge", g, []api.Mutation{newEdge(2, 2, 22), dropEdge(2, 2)}, graphOf(vertex(1, 10, 1, 2), vertex(2, 20, 1, 2)), 1)
}

// Promise 6.1: edges to a vertex that went stay, are found, and lead to it when it comes again.
func TestApplyEdgesToNowhere(t *testing.T) {
	g := graphOf(vertex(1, 10, 2), vertex(2, 20, 1, 2), vertex(3, 30, 2))
	h, n := mut.Apply(g, []api.Mutation{dropVertex(2)})
	if n != 1 || !graph.Same(h, graphOf(vertex(1, 10, 2), vertex(3, 30, 2))) {
		t.Fatalf("a vertex went: %v with %d changes", h, n)
	}
	comes(t, "they stay", h, nil, h, 0)
	comes(t, "they are there", h, []api.Mutation{newEdge(1, 2, 5)}, h, 0)
	comes(t, "one of them goes", h, []api.Mutation{dropEdge(1, 2)}, graphOf(vertex(1, 10), vertex(3, 30, 2)), 1)
	comes(t, "it comes again", h, []api.Mutation{newVertex(2, 6)}, graphOf(vertex(1, 10, 2), vertex(2, 6), vertex(3, 30, 2)), 1)
}

// Promise 6.1: the graph without vertices.
func TestApplyEmptyGraph(t *testing.T) {
	for _, g := range []api.Graph{{}, {Vertices: []api.Vertex{}}} {
		for _, m := range []api.Mutation{dropEdge(1, 2), dropVertex(1), newEdge(1, 2, 3), newEdge(0, 0, 0)} {
			comes(t, "nothing is there", g, []api.Mutation{m}, api.Graph{}, 0)
		}
		comes(t, "a vertex comes", g, []api.Mutation{newVertex(0, 0)}, graphOf(vertex(0, 0)), 1)
		comes(t, "two and an edge", g, []api.Mutation{newEdge(2, 1, 21), newVertex(2, 3), newEdge(5, 1, 1), newVertex(1, 4)},
			graphOf(vertex(1, 4), vertex(2, 3, 1)), 3)
	}
}

// Promise 6.1: a kind that is none changes nothing, and is in nobody's way.
func TestApplyOtherKinds(t *testing.T) {
	for _, kind := range otherKinds() {
		comes(t, "alone", some(), []api.Mutation{ask(kind, 2, 9, 1), ask(kind, 3, 0, 0)}, some(), 0)
		comes(t, "beside others", some(), []api.Mutation{ask(kind, 9, 0, 0), dropVertex(9), ask(kind, 9, 0, 0)}, graphOf(some().Vertices[:4]...), 1)
	}
}

// Promise 6.1: no bound is told of what comes.
func TestApplyMany(t *testing.T) {
	l, want := []api.Mutation{}, api.Graph{}
	for i := range int64(api.MaxVertices + 50) {
		want.Vertices = append(want.Vertices, vertex(i, -i, i, i+1, i+2, i+3, i+4, i+5, i+6, i+7, i+8, i+9))
		l = append(l, newVertex(i, -i))
		for _, e := range want.Vertices[i].Edges {
			l = append(l, newEdge(i, e.To, e.Weight))
		}
	}
	slices.Reverse(l)
	comes(t, "more than a graph has", api.Graph{}, l, want, len(l))
	l = l[:0]
	for i := range int64(api.MaxSent) {
		l = append(l, newEdge(1, i, i), newEdge(1, i, i+1))
	}
	got, n := mut.Apply(graphOf(vertex(1, 0)), l)
	if n != api.MaxSent || graph.Edges(got) != api.MaxSent || got.Vertices[0].Edges[300] != (api.Edge{To: 300, Weight: 300}) {
		t.Errorf("%d edges with %d changes", graph.Edges(got), n)
	}
}

// Promise 6.1: handed in in any order, the same comes of them.
func TestApplyInAnyOrder(t *testing.T) {
	g := graphOf(vertex(1, 10, 1, 2), vertex(2, 20, 1))
	l := []api.Mutation{newEdge(1, 2, 9), dropVertex(1), newEdge(1, 2, 12), dropEdge(1, 2), newVertex(1, 6), newVertex(1, 5), newEdge(3, 1, 1)}
	want := graphOf(vertex(1, 5), vertex(2, 20, 1))
	want.Vertices[0].Edges = []api.Edge{{To: 2, Weight: 9}}
	orders(l, 0, func(l []api.Mutation) { comes(t, "in some order", g, l, want, 4) })
}

// orders calls f with a list in all its orders.
func orders(l []api.Mutation, from int, f func(l []api.Mutation)) {
	if from == len(l) {
		f(l)
		return
	}
	for i := from; i < len(l); i++ {
		l[from], l[i] = l[i], l[from]
		orders(l, from+1, f)
		l[from], l[i] = l[i], l[from]
	}
}

// model is a graph as maps, which does requests by rules of the test's own.
type model struct {
	value map[int64]int64
	edges map[int64]map[int64]int64
}

func modelOf(g api.Graph) model {
	m := model{map[int64]int64{}, map[int64]map[int64]int64{}}
	for _, v := range g.Vertices {
		m.value[v.ID], m.edges[v.ID] = v.Value, map[int64]int64{}
		for _, e := range v.Edges {
			m.edges[v.ID][e.To] = e.Weight
		}
	}
	return m
}

func (m model) graph() api.Graph {
	g := api.Graph{}
	for _, id := range slices.Sorted(maps.Keys(m.value)) {
		v := api.Vertex{ID: id, Value: m.value[id]}
		for _, to := range slices.Sorted(maps.Keys(m.edges[id])) {
			v.Edges = append(v.Edges, api.Edge{To: to, Weight: m.edges[id][to]})
		}
		g.Vertices = append(g.Vertices, v)
	}
	return g
}

// do goes kind by kind, and keeps of each thing the least value that is asked for.
func (m model) do(l []api.Mutation) int {
	n := 0
	for kind := 1; kind <= 4; kind++ {
		low := map[[2]int64]int64{}
		for _, a := range l {
			key := [2]int64{a.ID, a.To}
			if v, ok := low[key]; a.Kind == kind && (!ok || a.V < v) {
				low[key] = a.V
			}
		}
		for key, v := range low {
			if m.one(kind, key[0], key[1], v) {
				n++
			}
		}
	}
	return n
}

func (m model) one(kind int, id, to, v int64) bool {
	_, there := m.value[id]
	_, edge := m.edges[id][to]
	switch {
	case kind == 1 && edge:
		delete(m.edges[id], to)
	case kind == 2 && there:
		delete(m.value, id)
		delete(m.edges, id)
	case kind == 3 && !there:
		m.value[id], m.edges[id] = v, map[int64]int64{}
	case kind == 4 && there && !edge:
		m.edges[id][to] = v
	default:
		return false
	}
	return true
}

// chanceRequest is a request that may be, of few vertices, so that many are for the same thing.
func chanceRequest(chance *rand.Rand) api.Mutation {
	m := ask(1+chance.Intn(4), int64(chance.Intn(6)-2), int64(chance.Intn(6)-2), int64(chance.Intn(5)-2))
	if m.Kind == api.MutRemoveEdge || m.Kind == api.MutRemoveVertex {
		m.V = 0
	}
	if m.Kind == api.MutRemoveVertex || m.Kind == api.MutAddVertex {
		m.To = 0
	}
	return m
}

// Promise 6.1: list behind list, held against the model.
func TestApplyAgainstModel(t *testing.T) {
	chance := rand.New(rand.NewSource(6))
	for range 200 {
		g := api.Graph{}
		for range 20 {
			l := []api.Mutation{}
			for range chance.Intn(16) {
				l = append(l, chanceRequest(chance))
			}
			m := modelOf(g)
			n := m.do(l)
			comes(t, "among others", g, l, m.graph(), n)
			g = m.graph()
		}
	}
}

// ruin changes all that a graph holds, and what stands behind its lists.
func ruin(g api.Graph) {
	for _, v := range g.Vertices {
		edges := v.Edges[:cap(v.Edges)]
		for i := range edges {
			edges[i] = api.Edge{To: -99, Weight: -99}
		}
	}
	l := g.Vertices[:cap(g.Vertices)]
	for i := range l {
		l[i] = vertex(-99, -99, -99)
	}
}

// roomy is a graph whose lists have room behind them.
func roomy(g api.Graph) api.Graph {
	l := make([]api.Vertex, 0, len(g.Vertices)+3)
	for _, v := range g.Vertices {
		v.Edges = append(make([]api.Edge, 0, len(v.Edges)+3), v.Edges...)
		l = append(l, v)
	}
	return api.Graph{Vertices: l}
}

// R2: what is told is the caller's own, whatever was changed, and what is handed in, with the room behind it, stays as it is.
func TestApplyOwn(t *testing.T) {
	for _, l := range [][]api.Mutation{nil, {dropEdge(2, 2)}, {dropVertex(0)}, {newVertex(3, 3)}, {newEdge(7, 3, 3)}, {newEdge(0, 3, 3)},
		{newEdge(0, 3, 3), newEdge(2, 3, 3), dropVertex(-4), newVertex(8, 8), dropEdge(7, 2), newEdge(8, 1, 1), newEdge(2, 3, 2)}} {
		l = append(make([]api.Mutation, 0, len(l)+3), l...)
		g, l0 := roomy(some()), slices.Clone(l)
		want, _ := mut.Apply(some(), l)
		got, _ := mut.Apply(g, l)
		for _, v := range g.Vertices[len(g.Vertices):cap(g.Vertices)] {
			if v.ID != 0 || v.Value != 0 || v.Edges != nil {
				t.Errorf("behind the vertices stands %v", v)
			}
		}
		for _, v := range g.Vertices {
			for _, e := range v.Edges[len(v.Edges):cap(v.Edges)] {
				if e != (api.Edge{}) {
					t.Errorf("behind the edges stands %v", e)
				}
			}
		}
		same(t, "behind the requests", l[len(l):cap(l)], make([]api.Mutation, 3))
		ruin(got)
		if !graph.Same(g, some()) {
			t.Errorf("as the answer is changed, the graph that was handed in became %v", g)
		}
		same(t, "the requests, as the answer is changed", l, l0)
		got, _ = mut.Apply(g, l)
		ruin(g)
		spoil(l)
		if !graph.Same(got, want) {
			t.Errorf("as what was handed in is changed, the answer became %v", got)
		}
		for i, v := range got.Vertices {
			_ = append(v.Edges, api.Edge{To: 5, Weight: 5}, api.Edge{To: 6, Weight: 6})
			if !graph.Same(got, want) {
				t.Errorf("as something is put behind the edges at %d, the answer became %v", i, got)
			}
		}
	}
}

// R1: graphs that may not be, and requests that may not be, are no reason to panic.
func TestApplyAnything(t *testing.T) {
	chance := rand.New(rand.NewSource(66))
	n := func() int64 { return int64(chance.Intn(7) - 3) }
	for range 2000 {
		g := api.Graph{}
		for range chance.Intn(6) {
			v := api.Vertex{ID: n(), Value: n()}
			for range chance.Intn(5) {
				v.Edges = append(v.Edges, api.Edge{To: n(), Weight: n()})
			}
			g.Vertices = append(g.Vertices, v)
		}
		l := []api.Mutation{}
		for range chance.Intn(10) {
			l = append(l, ask(int(n())+2, n(), n(), n()))
		}
		g0 := graph.Clone(g)
		a, many := mut.Apply(g, l)
		chance.Shuffle(len(l), func(i, j int) { l[i], l[j] = l[j], l[i] })
		b, again := mut.Apply(g, l)
		if !graph.Same(a, b) || many != again || !graph.Same(g, g0) || many > len(l) {
			t.Fatalf("%v of %v: %v and %v", l, g, a, b)
		}
	}
}
