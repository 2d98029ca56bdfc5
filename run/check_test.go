package run_test

import (
	"math"
	"slices"
	"testing"

	"cohort/api"
	"cohort/graph"
	"cohort/run"
)

// bad is a job that may not be, and what is told of it.
type bad struct {
	name string
	j    api.Job
	err  api.Errno
}

// badGraphs is graphs that may not be.
func badGraphs() []api.Graph {
	return []api.Graph{
		of(vertex(2, 0), vertex(1, 0)),
		of(vertex(1, 0), vertex(1, 0)),
		of(vertex(1, 0, 2)),
		of(vertex(1, 0, 2, 1), vertex(2, 0)),
		of(vertex(1, 0, 2, 2), vertex(2, 0)),
		of(vertex(2, 0, 3), vertex(1, 0)),
		wide(api.MaxVertices + 1),
		wide(api.MaxVertices+1, 1),
		tooManyEdges(),
	}
}

// tooManyEdges is a graph with an edge too many, that has nothing else against it.
func tooManyEdges() api.Graph {
	g := wide(api.MaxVertices)
	for i := range api.MaxEdges + 1 {
		v := &g.Vertices[i/200]
		v.Edges = append(v.Edges, api.Edge{To: g.Vertices[i%200].ID})
	}
	return g
}

// fullest is a graph with as many vertices and edges as there may be.
func fullest() api.Graph {
	g := tooManyEdges()
	last := &g.Vertices[api.MaxEdges/200]
	last.Edges = last.Edges[:len(last.Edges)-1]
	return g
}

// badParams is, for each program, parameters that it does not allow for the small graph.
func badParams() map[string][][]int64 {
	source := [][]int64{nil, {0}, {5}, {-1}, {greatest}, {least}, {1, 2}, {1, 1}, {1, 2, 3, 4}, {1, 2, 3, 4, 5}}
	turns := [][]int64{nil, {-1}, {101}, {greatest}, {least}, {1, 2}, {0, 0, 0, 0}, {1, 2, 3, 4, 5}}
	none := [][]int64{{0}, {1}, {-1}, {1, 2}, {0, 0, 0, 0}, {1, 2, 3, 4, 5}}
	return map[string][][]int64{"bfs": source, "sssp": source, "pagerank": turns, "labels": turns,
		"kcore": {nil, {-1}, {257}, {greatest}, {least}, {2, 2}, {1, 2, 3, 4, 5}},
		"cc":    none, "colors": none, "degree": none, "matching": none, "triangles": none}
}

// badLimits is limits that may not be: Steps, Sent, Parts.
func badLimits() [][3]int {
	return [][3]int{
		{0, 9, 1}, {-1, 9, 1}, {math.MinInt, 9, 1}, {api.MaxSteps + 1, 9, 1}, {math.MaxInt, 9, 1}, {1<<32 + 1, 9, 1},
		{9, -1, 1}, {9, math.MinInt, 1}, {9, api.MaxSent + 1, 1}, {9, math.MaxInt, 1}, {9, 1<<32 + 1, 1},
		{9, 9, 0}, {9, 9, -1}, {9, 9, math.MinInt}, {9, 9, api.MaxParts + 1}, {9, 9, math.MaxInt}, {9, 9, 1<<32 + 1},
		{0, -1, 0}, {api.MaxSteps + 1, api.MaxSent + 1, api.MaxParts + 1}, {0, 0, 0},
	}
}

// bads is jobs that may not be, by one thing alone.
func bads() []bad {
	var l []bad
	for _, name := range strangers() {
		l = append(l, bad{"no program", job(name, small()), api.ErrProgram}, bad{"no program", job(name, small(), 1), api.ErrProgram})
	}
	for _, g := range badGraphs() {
		l = append(l, bad{"a graph", job("cc", g), graph.Check(g)}, bad{"a graph", job("pagerank", g, 3), graph.Check(g)})
	}
	for name, lists := range badParams() {
		for _, params := range lists {
			l = append(l, bad{"parameters", job(name, small(), params...), api.ErrParams})
		}
	}
	light := of(api.Vertex{ID: 1, Edges: []api.Edge{{To: 1, Weight: -1}}})
	l = append(l, bad{"a weight below 0", job("sssp", light, 1), api.ErrParams})
	for _, n := range badLimits() {
		l = append(l, bad{"limits", limited(job("cc", small()), n[0], n[1], n[2]), api.ErrLimit},
			bad{"limits", limited(job("bfs", small(), 1), n[0], n[1], n[2]), api.ErrLimit})
	}
	return l
}

// Promise 9.1: jobs that may be, the limits at both ends.
func TestCheck(t *testing.T) {
	for _, g := range append(graphs(), fullest()) {
		for _, j := range jobs(g) {
			if e := run.Check(j); e != api.OK {
				t.Errorf("%s %v of %v: error %d", j.Program, j.Params, g, e)
			}
		}
	}
	for _, steps := range []int{1, 2, api.MaxSteps - 1, api.MaxSteps} {
		for _, sent := range []int{0, 1, api.MaxSent - 1, api.MaxSent} {
			for _, parts := range []int{1, 2, api.MaxParts - 1, api.MaxParts} {
				if e := run.Check(limited(job("cc", small()), steps, sent, parts)); e != api.OK {
					t.Errorf("limits %d, %d, %d: error %d", steps, sent, parts, e)
				}
			}
		}
	}
	for _, name := range []string{"cc", "colors", "degree", "matching", "triangles"} {
		if e := run.Check(job(name, api.Graph{})); e != api.OK {
			t.Errorf("%s without vertices: error %d", name, e)
		}
	}
	for _, n := range []int64{0, 1, 99, 100} {
		if e := run.Check(job("pagerank", small(), n)); e != api.OK {
			t.Errorf("pagerank %d: error %d", n, e)
		}
	}
}

// Promise 9.1: of each program, of each thing that may not be.
func TestCheckBad(t *testing.T) {
	for _, x := range bads() {
		before := cloneJob(x.j)
		if e := run.Check(x.j); e != x.err || e == api.OK {
			t.Errorf("%s, %s %v, limits %d, %d, %d: error %d, not %d", x.name, x.j.Program, x.j.Params, x.j.Steps, x.j.Sent, x.j.Parts, e, x.err)
		}
		if !sameJob(x.j, before) {
			t.Errorf("%s: the job was changed", x.name)
		}
	}
	// Without vertices there is no source.
	for _, name := range []string{"bfs", "sssp"} {
		if e := run.Check(job(name, api.Graph{}, 0)); e != api.ErrParams {
			t.Errorf("%s without vertices: error %d", name, e)
		}
	}
	if e := run.Check(api.Job{}); e != api.ErrProgram {
		t.Errorf("a job that is all zero: error %d", e)
	}
}

// Promise 9.1, R1: of several that apply, the one that is named first.
func TestCheckFirst(t *testing.T) {
	wrong := []func(*api.Job){
		func(j *api.Job) { j.Program = "none" },
		func(j *api.Job) { j.Graph = of(vertex(2, 0), vertex(1, 0)) },
		func(j *api.Job) { j.Params = []int64{1, 2, 3, 4, 5} },
		func(j *api.Job) { j.Parts = 0 },
	}
	errs := []api.Errno{api.ErrProgram, api.ErrVertex, api.ErrParams, api.ErrLimit}
	for some := 1; some < 1<<len(wrong); some++ {
		j, want := job("bfs", small(), 1), api.OK
		for i, spoil := range wrong {
			if some>>i&1 == 1 {
				spoil(&j)
				if want == api.OK {
					want = errs[i]
				}
			}
		}
		if e := run.Check(j); e != want {
			t.Errorf("%04b: error %d, not %d", some, e, want)
		}
		o, e := run.Run(j)
		if e != want || !equal(o, api.Outcome{}) {
			t.Errorf("%04b: run, %v with error %d, not %d", some, o, e, want)
		}
		if s, e := run.EncodeJob(j); e != want || s != "" {
			t.Errorf("%04b: %d bytes with error %d, not %d", some, len(s), e, want)
		}
	}
	g := of(vertex(1, 0, 7), vertex(1, 0))
	if e := run.Check(job("cc", g)); e != api.ErrVertex {
		t.Errorf("vertices and edges: error %d", e)
	}
}

// The names that the tests go over are all that there are.
func TestAllPrograms(t *testing.T) {
	var names []string
	for _, j := range jobs(small()) {
		names = append(names, j.Program)
	}
	slices.Sort(names)
	if got := slices.Compact(names); !slices.Equal(got, all()) {
		t.Errorf("jobs of %v", got)
	}
}
