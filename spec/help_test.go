package spec_test

import (
	"math"
	"slices"
	"testing"

	"cohort/api"
	"cohort/graph"
	"cohort/spec"
)

const (
	least    = math.MinInt64
	greatest = math.MaxInt64
)

// all is the names of all programs.
func all() []string {
	return []string{"bfs", "cc", "colors", "degree", "kcore", "labels", "matching", "pagerank", "sssp", "triangles"}
}

// strangers is names that are no program.
func strangers() []string {
	return []string{"", " ", "bf", "bfs ", " bfs", "BFS", "bfs\x00", "cc,bfs", "color", "colours", "degrees", "k-core", "page rank", "match", "\xff", "none"}
}

func of(l ...api.Vertex) api.Graph { return api.Graph{Vertices: l} }

// to is a vertex with edges of weight 1 to some ends.
func to(id int64, ends ...int64) api.Vertex {
	v := api.Vertex{ID: id, Value: 50 - id}
	for _, end := range ends {
		v.Edges = append(v.Edges, api.Edge{To: end, Weight: 1})
	}
	return v
}

// heavy is a vertex with edges to ends that have weights: an end, its weight, the next end, its weight.
func heavy(id int64, ends ...int64) api.Vertex {
	v := api.Vertex{ID: id, Value: -7}
	for i := 0; i < len(ends); i += 2 {
		v.Edges = append(v.Edges, api.Edge{To: ends[i], Weight: ends[i+1]})
	}
	return v
}

// triangle is 1, 2, 3, all neighbours of one another.
func triangle() api.Graph { return of(to(1, 2, 3), to(2, 3), to(3)) }

// ring is so many vertices from 1 on, each with an edge to the next one, the last one to the first.
func ring(many int64) api.Graph {
	g := api.Graph{}
	for i := range many {
		g.Vertices = append(g.Vertices, to(i+1, (i+1)%many+1))
	}
	return g
}

// row is so many vertices from 1 on, each with an edge to the next one.
func row(many int64) api.Graph {
	g := ring(many)
	g.Vertices[many-1].Edges = nil
	return g
}

// drawn is a graph of vertices with some numbers, whose edges are the bits of a number, some of them from a vertex to itself.
func drawn(bits int, ids ...int64) api.Graph {
	g := api.Graph{}
	for i, id := range ids {
		v := api.Vertex{ID: id, Value: int64(7*i - 9)}
		for k, end := range ids {
			if bits>>(len(ids)*i+k)&1 == 1 {
				v.Edges = append(v.Edges, api.Edge{To: end, Weight: int64((i*5 + k*3 + bits) % 7)})
			}
		}
		g.Vertices = append(g.Vertices, v)
	}
	return g
}

// wide is a graph of some vertices, each with an edge to one for each of some numbers.
func wide(many int, steps ...int) api.Graph {
	g := api.Graph{}
	number := func(i int) int64 { return int64(3*i - many) }
	for i := range many {
		v := api.Vertex{ID: number(i), Value: int64(i)}
		for _, n := range steps {
			v.Edges = append(v.Edges, api.Edge{To: number((i*i + n) % many), Weight: int64(i * n % 11)})
		}
		slices.SortFunc(v.Edges, func(a, b api.Edge) int { return int(a.To - b.To) })
		v.Edges = slices.CompactFunc(v.Edges, func(a, b api.Edge) bool { return a.To == b.To })
		g.Vertices = append(g.Vertices, v)
	}
	return g
}

// full is a graph with as many vertices and edges as there may be, all edges of which lead to one that is further on, or to the first ones.
func full() api.Graph {
	g := api.Graph{}
	for i := range int64(api.MaxVertices) {
		v := api.Vertex{ID: i}
		for k := range int64(api.MaxEdges / api.MaxVertices) {
			v.Edges = append(v.Edges, api.Edge{To: (i + k*k + 1) % api.MaxVertices, Weight: k})
		}
		slices.SortFunc(v.Edges, func(a, b api.Edge) int { return int(a.To - b.To) })
		g.Vertices = append(g.Vertices, v)
	}
	return g
}

// small is all graphs of up to three vertices, and some of four and of five.
func small() []api.Graph {
	l := []api.Graph{{}, of(to(5)), of(to(-5, -5))}
	for bits := range 1 << 4 {
		l = append(l, drawn(bits, -1, 6))
	}
	for bits := range 1 << 9 {
		l = append(l, drawn(bits, -3, 0, 8))
	}
	for bits := 0; bits < 1<<16; bits += 97 {
		l = append(l, drawn(bits, -3, 0, 4, 9))
	}
	for bits := 0; bits < 1<<25; bits += 44449 {
		l = append(l, drawn(bits, least, -1, 0, 1, greatest))
	}
	return l
}

// graphs is all of small, and greater ones.
func graphs() []api.Graph {
	return append(small(), ring(3), ring(7), row(9), wide(17, 1), wide(30, 1, 5, 7), wide(64, 3, 4), wide(90, 1, 2, 3, 50), full())
}

// refused is graphs that may not be.
func refused() []api.Graph {
	double := to(2, 1)
	double.Edges = append(double.Edges, double.Edges...)
	l := []api.Graph{
		of(to(2, 1), to(1, 2)),
		of(to(3, 1, 2), to(1), to(2, 3), to(0, 0)),
		of(to(1, 2), to(1, 2), to(2)),
		of(to(1, 1), to(1, 1)),
		of(to(1, 9), to(2, -9)),
		of(to(1, 2, 1), double),
		of(to(1, least, greatest)),
		of(heavy(1, 2, -5), heavy(2, 1, least)),
		of(heavy(1, 1, -1)),
		of(heavy(1, 2, least), heavy(2, 1, least)),
		wide(400, 1, 2, 3),
	}
	many := api.Graph{}
	for i := range int64(3000) {
		many.Vertices = append(many.Vertices, to(-i, 0, -i, 1, -i/2))
	}
	return append(l, many)
}

// matrix is whether an edge leads from one vertex to another one, by places.
func matrix(g api.Graph) [][]bool {
	m := make([][]bool, len(g.Vertices))
	for i, v := range g.Vertices {
		m[i] = make([]bool, len(g.Vertices))
		for k, end := range g.Vertices {
			m[i][k] = slices.ContainsFunc(v.Edges, func(e api.Edge) bool { return e.To == end.ID })
		}
	}
	return m
}

// near is whether two vertices are neighbours, by places.
func near(g api.Graph) [][]bool {
	m := matrix(g)
	n := matrix(g)
	for i := range m {
		for k := range m {
			n[i][k] = i != k && (m[i][k] || m[k][i])
		}
	}
	return n
}

// gives tells whether a call answers some values, again when its first answer was spoilt, and leaves the graph as it was.
func gives(t *testing.T, what string, g api.Graph, want []int64, call func(api.Graph) []int64) {
	t.Helper()
	before := graph.Clone(g)
	for range 2 {
		got := call(g)
		if !slices.Equal(got, want) {
			t.Errorf("%s of %v: %v, not %v", what, g, got, want)
		}
		for i := range got {
			got[i] = -99
		}
		if !graph.Same(g, before) {
			t.Fatalf("%s: the graph became %v, not %v", what, g, before)
		}
	}
}

// calls is the calls that answer a list for each vertex and can't fail.
func calls() map[string]func(api.Graph) []int64 {
	return map[string]func(api.Graph) []int64{
		"components": spec.Components,
		"degrees":    spec.Degrees,
		"ranks":      func(g api.Graph) []int64 { return spec.Ranks(g, 5) },
		"labels":     func(g api.Graph) []int64 { return spec.Labels(g, 5) },
		"triangles":  spec.Triangles,
		"core":       func(g api.Graph) []int64 { return spec.Core(g, 2) },
		"colors":     spec.Colors,
	}
}

// Promise 10.1: of a graph without vertices there is nothing to tell.
func TestWithoutVertices(t *testing.T) {
	for _, g := range []api.Graph{{}, {Vertices: []api.Vertex{}}} {
		for name, call := range calls() {
			gives(t, name, g, nil, call)
		}
		if l, e := spec.Far(g, 0, true); len(l) != 0 || e != api.ErrNone {
			t.Error(l, e)
		}
		if !spec.Matched(g, nil) || !spec.Matched(g, []int64{}) || spec.Matched(g, []int64{0}) {
			t.Error("matched")
		}
	}
}

// Rule R1: graphs that may not be, and any other arguments, are answered, too, the same each time, and are left as they were.
func TestGraphsThatMayNotBe(t *testing.T) {
	for _, g := range refused() {
		for name, call := range calls() {
			gives(t, name, g, call(g), call)
		}
		for _, v := range g.Vertices[:min(10, len(g.Vertices))] {
			for _, steps := range []bool{true, false} {
				before := graph.Clone(g)
				a, e := spec.Far(g, v.ID, steps)
				b, f := spec.Far(g, v.ID, steps)
				if !slices.Equal(a, b) || e != f || e == api.ErrNone {
					t.Errorf("far from %d of %v: %v, %d, then %v, %d", v.ID, g, a, e, b, f)
				}
				if !graph.Same(g, before) {
					t.Errorf("far: the graph became %v", g)
				}
			}
		}
		for _, l := range [][]int64{nil, {1}, {1, 1}, {2, 1}, {1, 2}, {1, 2, 3}, {1, 2, 3, 4, 5}, {least, greatest}} {
			a := spec.Matched(g, l)
			if spec.Matched(g, l) != a {
				t.Error("matched", g, l)
			}
		}
		for _, name := range all() {
			o := api.Outcome{Kind: api.Done}
			for _, v := range g.Vertices {
				o.Values = append(o.Values, api.Value{ID: v.ID, V: v.ID})
			}
			for _, params := range [][]int64{nil, {0}, {1}, {-1}, {1, 2}} {
				j := api.Job{Program: name, Graph: g, Params: params}
				if spec.Right(j, o) != spec.Right(j, o) {
					t.Error(name, g, params)
				}
			}
		}
	}
}

// Rule R1: vertices that do not rise are answered by their numbers.
func TestVerticesThatDoNotRise(t *testing.T) {
	mixed := of(to(9), to(2, 9), to(5, 2, 9))
	rising := of(to(2, 9), to(5, 2, 9), to(9))
	for name, call := range calls() {
		gives(t, name, mixed, call(rising), call)
	}
	if l, e := spec.Far(mixed, 5, true); !slices.Equal(l, []int64{1, 0, 1}) || e != api.OK {
		t.Error(l, e)
	}
	if !spec.Matched(mixed, []int64{9, 5, 2}) || spec.Matched(mixed, []int64{2, 9, 2}) {
		t.Error("matched")
	}
}

// Rule R1: vertices of one number are answered as one, and an edge to no vertex as none.
func TestVerticesOfOneNumber(t *testing.T) {
	twice := of(to(1, 2, 7), to(1, 3), to(2, 3), to(3, 8))
	once := of(to(1, 2, 3), to(2, 3), to(3))
	for name, call := range calls() {
		gives(t, name, twice, call(once), call)
	}
	if l, e := spec.Far(twice, 1, true); !slices.Equal(l, []int64{0, 1, 1}) || e != api.OK {
		t.Error(l, e)
	}
	if l, e := spec.Far(twice, 7, true); l != nil || e != api.ErrNone {
		t.Error(l, e)
	}
}
