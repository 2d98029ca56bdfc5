package run_test

import (
	"math"
	"slices"
	"testing"

	"cohort/api"
	"cohort/graph"
	"cohort/run"
)

const (
	least    = math.MinInt64
	greatest = math.MaxInt64
)

// all is the names of all programs.
func all() []string {
	return []string{"bfs", "cc", "colors", "degree", "kcore", "labels", "matching", "pagerank", "sssp", "triangles"}
}

// strangers is names that are no program.
func strangers() []string {
	return []string{"", " ", "bf", "bfs ", " bfs", "BFS", "Bfs", "bfs\x00", "cc,bfs", "color", "colours", "degrees", "k-core", "rank", "page rank", "\xff", "none"}
}

// vertex is a vertex with a value, and edges to some ends, with weights that fall.
func vertex(id, value int64, ends ...int64) api.Vertex {
	v := api.Vertex{ID: id, Value: value}
	for i, to := range ends {
		v.Edges = append(v.Edges, api.Edge{To: to, Weight: int64(20 - 3*i)})
	}
	return v
}

func of(l ...api.Vertex) api.Graph { return api.Graph{Vertices: l} }

// small is 1 to 2, 1 to 3, 2 to 3, and 4 alone. From 1 to 3 the way over 2 is the lighter one.
func small() api.Graph {
	return of(
		api.Vertex{ID: 1, Value: 70, Edges: []api.Edge{{To: 2, Weight: 5}, {To: 3, Weight: 9}}},
		api.Vertex{ID: 2, Value: -70, Edges: []api.Edge{{To: 3, Weight: 3}}},
		api.Vertex{ID: 3, Value: 700},
		api.Vertex{ID: 4, Value: -1},
	)
}

// job is a job with limits that are never met.
func job(program string, g api.Graph, params ...int64) api.Job {
	return api.Job{Program: program, Graph: g, Params: params, Steps: api.MaxSteps, Sent: api.MaxSent, Parts: 1}
}

// limited is a job with other limits.
func limited(j api.Job, steps, sent, parts int) api.Job {
	j.Steps, j.Sent, j.Parts = steps, sent, parts
	return j
}

// jobs is jobs of all programs on a graph that has vertices, with parameters at both ends and between them.
func jobs(g api.Graph) []api.Job {
	var l []api.Job
	for _, name := range []string{"cc", "colors", "degree", "matching", "triangles"} {
		l = append(l, job(name, g))
	}
	for _, turns := range []int64{0, 1, 2, 5} {
		l = append(l, job("pagerank", g, turns), job("labels", g, turns))
	}
	for _, k := range []int64{0, 1, 2, 3, 256} {
		l = append(l, job("kcore", g, k))
	}
	for _, v := range []api.Vertex{g.Vertices[0], g.Vertices[len(g.Vertices)-1]} {
		l = append(l, job("bfs", g, v.ID), job("sssp", g, v.ID))
	}
	return l
}

// drawn is the graph of four vertices whose edges are the bits of a number, some of them from a vertex to itself.
func drawn(bits int) api.Graph {
	ids := []int64{-3, 0, 4, 9}
	g := api.Graph{}
	for i, id := range ids {
		v := api.Vertex{ID: id, Value: int64(7*i - 9)}
		for k, to := range ids {
			if bits>>(4*i+k)&1 == 1 {
				v.Edges = append(v.Edges, api.Edge{To: to, Weight: int64((i*5 + k*3) % 7)})
			}
		}
		g.Vertices = append(g.Vertices, v)
	}
	return g
}

// wide is a graph of some vertices, each with edges to those so many places on.
func wide(many int, steps ...int) api.Graph {
	g := api.Graph{}
	number := func(i int) int64 { return int64(3*i - many) }
	for i := range many {
		v := api.Vertex{ID: number(i), Value: int64(i)}
		for _, n := range steps {
			v.Edges = append(v.Edges, api.Edge{To: number((i*i + n) % many), Weight: int64(i*n%11 + 1)})
		}
		slices.SortFunc(v.Edges, func(a, b api.Edge) int { return int(a.To - b.To) })
		v.Edges = slices.CompactFunc(v.Edges, func(a, b api.Edge) bool { return a.To == b.To })
		g.Vertices = append(g.Vertices, v)
	}
	return g
}

// graphs is graphs of several shapes, all of which have vertices.
func graphs() []api.Graph {
	l := []api.Graph{small(), of(vertex(1, 0, 2), vertex(2, 0)), of(vertex(5, 3)), of(vertex(-5, 3, -5)),
		of(vertex(least, 1, greatest), vertex(0, 2), vertex(greatest, 3, least, 0)),
		wide(17, 1), wide(30, 1, 5, 7), wide(64, 3, 4), wide(90, 1, 2, 3, 50)}
	for bits := 0; bits < 1<<16; bits += 977 {
		l = append(l, drawn(bits))
	}
	return l
}

// cloneJob is a job of its own.
func cloneJob(j api.Job) api.Job {
	j.Graph = graph.Clone(j.Graph)
	j.Params = slices.Clone(j.Params)
	return j
}

func sameJob(a, b api.Job) bool {
	return a.Program == b.Program && graph.Same(a.Graph, b.Graph) && slices.Equal(a.Params, b.Params) &&
		a.Steps == b.Steps && a.Sent == b.Sent && a.Parts == b.Parts
}

// isZero tells whether a job is all zero.
func isZero(j api.Job) bool { return sameJob(j, api.Job{}) }

func spoilGraph(g api.Graph) {
	for i := range g.Vertices {
		for k := range g.Vertices[i].Edges {
			g.Vertices[i].Edges[k] = api.Edge{To: -99, Weight: -99}
		}
		g.Vertices[i].ID, g.Vertices[i].Value = -99, -99
	}
}

func spoilJob(j api.Job) {
	spoilGraph(j.Graph)
	for i := range j.Params {
		j.Params[i] = -99
	}
}

// done is an outcome that is Done, with values by a graph's vertices.
func done(g api.Graph, steps int, values ...int64) api.Outcome {
	o := api.Outcome{Kind: api.Done, Steps: steps}
	for i, v := range values {
		o.Values = append(o.Values, api.Value{ID: g.Vertices[i].ID, V: v})
	}
	return o
}

// failed is an outcome that is Failed.
func failed(e api.Errno, steps int) api.Outcome {
	return api.Outcome{Kind: api.Failed, Err: e, Steps: steps}
}

// equal tells whether two outcomes are the same, by a rule of the test's own.
func equal(a, b api.Outcome) bool {
	return a.Kind == b.Kind && a.Err == b.Err && a.Steps == b.Steps && slices.Equal(a.Values, b.Values)
}

// comes tells whether a job comes to an outcome, and is left as it was.
func comes(t *testing.T, j api.Job, want api.Outcome) {
	t.Helper()
	before := cloneJob(j)
	got, e := run.Run(j)
	if e != api.OK || !equal(got, want) {
		t.Errorf("%s %v of %v, limits %d, %d, %d: %v with error %d, not %v", j.Program, j.Params, j.Graph, j.Steps, j.Sent, j.Parts, got, e, want)
	}
	if !sameJob(j, before) {
		t.Errorf("%s: the job became %v, not %v", j.Program, j, before)
	}
}
