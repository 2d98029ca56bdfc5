package graph_test

import (
	"math"
	"testing"

	"cohort/api"
	"cohort/graph"
)

const (
	least    = math.MinInt64
	greatest = math.MaxInt64
)

// of is a graph of vertices.
func of(l ...api.Vertex) api.Graph { return api.Graph{Vertices: l} }

// to is a vertex with edges to ends, of weights that tell them apart.
func to(id int64, ends ...int64) api.Vertex {
	v := api.Vertex{ID: id, Value: 10 * id}
	for i, end := range ends {
		v.Edges = append(v.Edges, api.Edge{To: end, Weight: int64(i) - 1})
	}
	return v
}

// full is a graph of so many vertices, numbered from 0 on, each with so many edges to the first ones.
func full(vertices, edges int) api.Graph {
	ends := []int64{}
	for i := range edges {
		ends = append(ends, int64(i))
	}
	g := api.Graph{}
	for i := range vertices {
		g.Vertices = append(g.Vertices, to(int64(i), ends...))
	}
	return g
}

// tooManyEdges has one edge too many, and nothing else that may not be.
func tooManyEdges() api.Graph {
	g := full(api.MaxVertices, api.MaxEdges/api.MaxVertices)
	last := len(g.Vertices) - 1
	g.Vertices[last].Edges = append(g.Vertices[last].Edges, api.Edge{To: int64(last)})
	return g
}

// oneOfTooMany has too many edges at one vertex.
func oneOfTooMany() api.Graph {
	g := full(2, 0)
	g.Vertices[1].Edges = make([]api.Edge, api.MaxEdges+1)
	return g
}

type named struct {
	name string
	g    api.Graph
	err  api.Errno
}

// good has graphs that may be.
func good() []named {
	return []named{
		{name: "none", g: of()},
		{name: "an empty list", g: api.Graph{Vertices: []api.Vertex{}}},
		{name: "one vertex", g: of(to(7))},
		{name: "one vertex, an empty list of edges", g: of(api.Vertex{ID: 7, Edges: []api.Edge{}})},
		{name: "an edge to itself", g: of(to(-3, -3))},
		{name: "two", g: of(to(-1, 2), to(2))},
		{name: "neighbouring numbers", g: of(to(-1, 0), to(0, -1, 1), to(1, 0))},
		{name: "numbers beyond a byte", g: of(to(-5000, 64, 70000), to(-64), to(64, -5000, -64, 64), to(70000, -64))},
		{name: "both ends of 64 bits", g: of(to(least, least, 0, greatest), to(0, least, greatest), to(greatest, least, greatest))},
		{name: "values and weights at both ends", g: of(
			api.Vertex{ID: 1, Value: least, Edges: []api.Edge{{To: 1, Weight: greatest}, {To: 2, Weight: least}}},
			api.Vertex{ID: 2, Value: greatest})},
		{name: "a hundred and thirty edges at one", g: func() api.Graph {
			g := full(130, 0)
			g.Vertices[5] = full(130, 130).Vertices[5]
			return g
		}()},
		{name: "all vertices that there may be", g: full(api.MaxVertices, 0)},
		{name: "all edges that there may be", g: full(api.MaxVertices, api.MaxEdges/api.MaxVertices)},
	}
}

// bad has graphs that may not be.
func bad() []named {
	return []named{
		{"a vertex too many", full(api.MaxVertices+1, 0), api.ErrVertex},
		{"many vertices too many", full(2*api.MaxVertices, 1), api.ErrVertex},
		{"a vertex twice", of(to(1), to(1)), api.ErrVertex},
		{"a vertex twice at the end", of(to(1), to(2), to(3), to(3)), api.ErrVertex},
		{"vertices that fall", of(to(2), to(1)), api.ErrVertex},
		{"vertices that fall at the end", of(to(1), to(2), to(4), to(3)), api.ErrVertex},
		{"vertices that fall below 0", of(to(-1), to(-2)), api.ErrVertex},
		{"vertices that fall from end to end", of(to(greatest), to(least)), api.ErrVertex},
		{"a vertex twice, the same edges", of(to(1, 1), to(1, 1)), api.ErrVertex},
		{"an edge too many", tooManyEdges(), api.ErrEdge},
		{"far too many edges at one", oneOfTooMany(), api.ErrEdge},
		{"an edge twice", of(to(1), to(2, 1, 1)), api.ErrEdge},
		{"an edge twice, each of another weight", of(
			api.Vertex{ID: 1, Edges: []api.Edge{{To: 1, Weight: 5}, {To: 1, Weight: 6}}}), api.ErrEdge},
		{"ends that fall", of(to(1, 2, 1), to(2)), api.ErrEdge},
		{"ends that fall at the end", of(to(1), to(2), to(3, 1, 3, 2)), api.ErrEdge},
		{"ends that fall from end to end", of(to(least, greatest, least), to(greatest)), api.ErrEdge},
		{"an end ahead of all", of(to(2, 1), to(3)), api.ErrEdge},
		{"an end between two", of(to(1), to(3, 1, 2, 3)), api.ErrEdge},
		{"an end behind all", of(to(1), to(2, 1, 3)), api.ErrEdge},
		{"the ends of 64 bits, which are no vertices", of(to(0, least, greatest)), api.ErrEdge},
		{"an end at the last vertex alone", of(to(1, 1, 2), to(2, 1, 2), to(3, 4)), api.ErrEdge},
		// ErrVertex is named first.
		{"edges and then vertices that may not be", of(to(1, 9), to(2, 2, 1), to(2)), api.ErrVertex},
		{"too many edges, and vertices that fall", func() api.Graph {
			g := oneOfTooMany()
			g.Vertices[0].ID = 5
			return g
		}(), api.ErrVertex},
	}
}

// Promise 3.1.
func TestCheck(t *testing.T) {
	for _, x := range append(good(), bad()...) {
		before := deep(x.g)
		if e := graph.Check(x.g); e != x.err {
			t.Errorf("%s: error %d, not %d", x.name, e, x.err)
		}
		unchanged(t, x.name, x.g, before)
	}
}

// Promise 3.1: edges count in all, wherever they stand.
func TestCheckEdgesInAll(t *testing.T) {
	for _, short := range []int{0, 1, 100, api.MaxVertices - 1} {
		g := full(api.MaxVertices, api.MaxEdges/api.MaxVertices)
		g.Vertices[short].Edges = g.Vertices[short].Edges[:3]
		rest := full(api.MaxVertices, 13).Vertices
		other := (short + 1) % api.MaxVertices
		g.Vertices[other].Edges = rest[other].Edges
		if n, e := graph.Edges(g), graph.Check(g); n != api.MaxEdges || e != api.OK {
			t.Errorf("%d edges: error %d", n, e)
		}
		g.Vertices[short].Edges = rest[short].Edges[:4]
		if n, e := graph.Edges(g), graph.Check(g); n != api.MaxEdges+1 || e != api.ErrEdge {
			t.Errorf("%d edges: error %d", n, e)
		}
	}
}

// deep is a copy of a graph that the program has no hand in.
func deep(g api.Graph) api.Graph {
	c := api.Graph{}
	for _, v := range g.Vertices {
		v.Edges = append([]api.Edge{}, v.Edges...)
		c.Vertices = append(c.Vertices, v)
	}
	return c
}

// equal holds graphs against each other, without the program's own Same.
func equal(a, b api.Graph) bool {
	if len(a.Vertices) != len(b.Vertices) {
		return false
	}
	for i, v := range a.Vertices {
		if !equalVertex(v, b.Vertices[i]) {
			return false
		}
	}
	return true
}

func equalVertex(a, b api.Vertex) bool {
	if a.ID != b.ID || a.Value != b.Value || len(a.Edges) != len(b.Edges) {
		return false
	}
	for i, e := range a.Edges {
		if e != b.Edges[i] {
			return false
		}
	}
	return true
}

// R2: what is handed in is not changed.
func unchanged(t *testing.T, name string, g, before api.Graph) {
	t.Helper()
	if !equal(g, before) {
		t.Errorf("%s: the graph that was handed in has changed", name)
	}
}

// spoil changes all that a graph has.
func spoil(g api.Graph) {
	for i := range g.Vertices {
		v := &g.Vertices[i]
		for k := range v.Edges {
			v.Edges[k] = api.Edge{To: -777, Weight: -778}
		}
		v.ID, v.Value = -779, -780
		v.Edges = append(v.Edges, api.Edge{To: -781})
	}
}

// Promise 3.2.
func TestFind(t *testing.T) {
	for _, x := range []struct {
		ids  []int64
		id   int64
		at   int
		here bool
	}{
		{nil, 0, 0, false},
		{nil, least, 0, false},
		{nil, greatest, 0, false},
		{[]int64{5}, 4, 0, false},
		{[]int64{5}, 5, 0, true},
		{[]int64{5}, 6, 1, false},
		{[]int64{-10, 0, 7, 20}, least, 0, false},
		{[]int64{-10, 0, 7, 20}, -11, 0, false},
		{[]int64{-10, 0, 7, 20}, -10, 0, true},
		{[]int64{-10, 0, 7, 20}, -9, 1, false},
		{[]int64{-10, 0, 7, 20}, -1, 1, false},
		{[]int64{-10, 0, 7, 20}, 0, 1, true},
		{[]int64{-10, 0, 7, 20}, 3, 2, false},
		{[]int64{-10, 0, 7, 20}, 7, 2, true},
		{[]int64{-10, 0, 7, 20}, 19, 3, false},
		{[]int64{-10, 0, 7, 20}, 20, 3, true},
		{[]int64{-10, 0, 7, 20}, 21, 4, false},
		{[]int64{-10, 0, 7, 20}, greatest, 4, false},
		{[]int64{least, greatest}, least, 0, true},
		{[]int64{least, greatest}, least + 1, 1, false},
		{[]int64{least, greatest}, 0, 1, false},
		{[]int64{least, greatest}, greatest - 1, 1, false},
		{[]int64{least, greatest}, greatest, 1, true},
	} {
		g := api.Graph{}
		for _, id := range x.ids {
			g.Vertices = append(g.Vertices, api.Vertex{ID: id, Value: -id})
		}
		if at, here := graph.Find(g, x.id); at != x.at || here != x.here {
			t.Errorf("%d among %d: %d, %v, not %d, %v", x.id, x.ids, at, here, x.at, x.here)
		}
	}
}

// Promise 3.2: graphs of all sizes, at each vertex and at each place between two.
func TestFindEverywhere(t *testing.T) {
	for n := range api.MaxVertices + 1 {
		g := api.Graph{}
		for i := range n {
			g.Vertices = append(g.Vertices, api.Vertex{ID: int64(2*i - n)})
		}
		for i := range n {
			if at, here := graph.Find(g, int64(2*i-n)); at != i || !here {
				t.Fatalf("vertex %d of %d: %d, %v", i, n, at, here)
			}
			if at, here := graph.Find(g, int64(2*i-n)-1); at != i || here {
				t.Fatalf("ahead of vertex %d of %d: %d, %v", i, n, at, here)
			}
		}
		if at, here := graph.Find(g, int64(n)+1); at != n || here {
			t.Fatalf("behind %d: %d, %v", n, at, here)
		}
	}
}

// R1: these end and do not panic at graphs that may not be.
func TestGraphsThatMayNotBe(t *testing.T) {
	for _, x := range bad() {
		before := deep(x.g)
		for _, id := range []int64{least, -1, 0, 1, 2, 300, greatest} {
			if at, _ := graph.Find(x.g, id); at < 0 || at > len(x.g.Vertices) {
				t.Errorf("%s: %d is found at %d", x.name, id, at)
			}
		}
		n := 0
		for range graph.All(x.g) {
			n++
		}
		if n != graph.Edges(x.g) {
			t.Errorf("%s: %d edges are gone over, of %d", x.name, n, graph.Edges(x.g))
		}
		if c := graph.Clone(x.g); !equal(c, x.g) || !graph.Same(c, x.g) {
			t.Errorf("%s: the clone is another one", x.name)
		}
		unchanged(t, x.name, x.g, before)
	}
}

// Promise 3.2.
func TestEdges(t *testing.T) {
	for _, x := range []struct {
		g    api.Graph
		want int
	}{
		{of(), 0},
		{of(to(1)), 0},
		{of(to(1, 1)), 1},
		{of(to(1, 1, 2), to(2)), 2},
		{of(to(1), to(2, 1, 2)), 2},
		{of(to(1, 2), to(2, 1, 2, 3), to(3), to(4, 1)), 5},
		{full(api.MaxVertices, 8), api.MaxEdges},
		{tooManyEdges(), api.MaxEdges + 1},
		{oneOfTooMany(), api.MaxEdges + 1},
		{of(to(2, 9, 9), to(1, 9)), 3},
	} {
		if n := graph.Edges(x.g); n != x.want {
			t.Errorf("%d edges, not %d", n, x.want)
		}
	}
}

// Promise 3.2.
func TestPart(t *testing.T) {
	for _, x := range []struct {
		id    int64
		parts int
		want  int
	}{
		{-1, 4, 3},
		{0, 4, 0}, {1, 4, 1}, {3, 4, 3}, {4, 4, 0}, {5, 4, 1}, {-2, 4, 2}, {-3, 4, 1}, {-4, 4, 0}, {-5, 4, 3}, {-8, 4, 0},
		{7, 1, 0}, {-7, 1, 0}, {least, 1, 0}, {greatest, 1, 0},
		{100, 16, 4}, {-100, 16, 12},
		// 2^63 is 2 modulo 3, 1 modulo 7, 8 modulo 10, 0 modulo 16.
		{least, 3, 1}, {least, 7, 6}, {least, 10, 2}, {least, 16, 0}, {least + 1, 16, 1},
		{greatest, 3, 1}, {greatest, 7, 0}, {greatest, 10, 7}, {greatest, 16, 15},
		{greatest, math.MaxInt, 0}, {least, math.MaxInt, math.MaxInt - 1}, {-1, math.MaxInt, math.MaxInt - 1}, {5, math.MaxInt, 5},
		{0, 0, 0}, {5, 0, 0}, {-5, 0, 0}, {5, -1, 0}, {-5, -1, 0}, {5, -3, 0}, {-5, -3, 0},
		{least, -1, 0}, {greatest, math.MinInt, 0}, {least, math.MinInt, 0}, {least, 0, 0},
	} {
		if got := graph.Part(x.id, x.parts); got != x.want {
			t.Errorf("Part(%d, %d) is %d, not %d", x.id, x.parts, got, x.want)
		}
	}
	for parts := 1; parts <= api.MaxParts+1; parts++ {
		want := 0
		for id := int64(-parts * 5); id <= int64(parts*5); id++ {
			if got := graph.Part(id, parts); got != want {
				t.Errorf("Part(%d, %d) is %d, not %d", id, parts, got, want)
			}
			want = (want + 1) % parts
		}
	}
}

// Promise 3.2.
func TestClone(t *testing.T) {
	for _, x := range append(good(), bad()...) {
		before := deep(x.g)
		c := graph.Clone(x.g)
		if !equal(c, before) {
			t.Errorf("%s: the clone is another one", x.name)
		}
		spoil(c)
		unchanged(t, x.name, x.g, before)
		c = graph.Clone(x.g)
		spoil(x.g)
		if !equal(c, before) {
			t.Errorf("%s: what is changed in the graph is seen in its clone", x.name)
		}
	}
}

// Promise 3.2: nor do two lists of one clone share anything, where those of the graph do.
func TestCloneLists(t *testing.T) {
	l := []api.Edge{{To: 1, Weight: 1}, {To: 2, Weight: 2}, {To: 3, Weight: 3}}
	g := of(
		api.Vertex{ID: 1, Edges: l},
		api.Vertex{ID: 2, Edges: l},
		api.Vertex{ID: 3, Edges: l[:1]})
	before := deep(g)
	c := graph.Clone(g)
	c.Vertices[0].Edges[0].Weight = 100
	grown := append(c.Vertices[2].Edges, api.Edge{To: 200})
	if c.Vertices[0].Edges[1] != l[1] || c.Vertices[1].Edges[0] != l[0] || c.Vertices[1].Edges[1] != l[1] || grown[0] != l[0] {
		t.Errorf("two lists of one clone are one: %v", c)
	}
	unchanged(t, "a list that three vertices have", g, before)
}

// Promise 3.2.
func TestSame(t *testing.T) {
	base := func() api.Graph { return of(to(1, 1, 2), to(2), to(3, 1, 2, 3)) }
	for _, x := range []struct {
		name   string
		change func(g *api.Graph)
	}{
		{"a number", func(g *api.Graph) { g.Vertices[0].ID = 0 }},
		{"the last number", func(g *api.Graph) { g.Vertices[2].ID = 4 }},
		{"a value", func(g *api.Graph) { g.Vertices[1].Value++ }},
		{"the last value", func(g *api.Graph) { g.Vertices[2].Value++ }},
		{"an end", func(g *api.Graph) { g.Vertices[0].Edges[1].To = 3 }},
		{"the last end", func(g *api.Graph) { g.Vertices[2].Edges[2].To = 4 }},
		{"a weight", func(g *api.Graph) { g.Vertices[0].Edges[0].Weight = 9 }},
		{"the last weight", func(g *api.Graph) { g.Vertices[2].Edges[2].Weight = 9 }},
		{"an edge less", func(g *api.Graph) { g.Vertices[2].Edges = g.Vertices[2].Edges[:2] }},
		{"no edges", func(g *api.Graph) { g.Vertices[0].Edges = nil }},
		{"an edge more", func(g *api.Graph) { g.Vertices[1].Edges = []api.Edge{{}} }},
		{"an edge at another vertex", func(g *api.Graph) {
			g.Vertices[1].Edges, g.Vertices[0].Edges = g.Vertices[0].Edges[1:], g.Vertices[0].Edges[:1]
		}},
		{"a vertex less", func(g *api.Graph) { g.Vertices = g.Vertices[:2] }},
		{"a vertex more", func(g *api.Graph) { g.Vertices = append(g.Vertices, api.Vertex{}) }},
		{"none", func(g *api.Graph) { g.Vertices = nil }},
		{"another order", func(g *api.Graph) { g.Vertices[0], g.Vertices[1] = g.Vertices[1], g.Vertices[0] }},
		{"another order of edges", func(g *api.Graph) {
			e := g.Vertices[0].Edges
			e[0], e[1] = e[1], e[0]
		}},
	} {
		a, b := base(), base()
		if !graph.Same(a, b) || !graph.Same(a, a) {
			t.Error("a graph is not the same as itself")
		}
		x.change(&b)
		if graph.Same(a, b) || graph.Same(b, a) {
			t.Errorf("%s: the same", x.name)
		}
	}
}

// Promise 3.2, R3: lists that are empty and nil.
func TestSameEmpty(t *testing.T) {
	for _, x := range [][2]api.Graph{
		{of(), {}},
		{{}, {Vertices: []api.Vertex{}}},
		{of(api.Vertex{ID: 1}), of(api.Vertex{ID: 1, Edges: []api.Edge{}})},
	} {
		if !graph.Same(x[0], x[1]) || !graph.Same(x[1], x[0]) {
			t.Errorf("%#v and %#v are not the same", x[0], x[1])
		}
	}
	if graph.Same(of(), of(api.Vertex{})) || graph.Same(of(api.Vertex{}), of()) {
		t.Error("a vertex of zeros is nothing")
	}
}

// Promise 3.2.
func TestSameAmongMany(t *testing.T) {
	for i, x := range append(good(), bad()...) {
		for k, y := range append(good(), bad()...) {
			before, other := deep(x.g), deep(y.g)
			if got := graph.Same(x.g, y.g); got != equal(x.g, y.g) || i == k && !got {
				t.Errorf("%s and %s: the same %v", x.name, y.name, got)
			}
			unchanged(t, x.name, x.g, before)
			unchanged(t, y.name, y.g, other)
		}
	}
}
