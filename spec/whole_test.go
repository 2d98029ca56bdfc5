package spec_test

import (
	"testing"

	"cohort/api"
	"cohort/graph"
	"cohort/run"
	"cohort/spec"
)

// jobs is jobs of all ten programs on a graph, with parameters at both ends and between them.
func jobs(g api.Graph) []api.Job {
	var l []api.Job
	for _, name := range []string{"cc", "colors", "degree", "matching", "triangles"} {
		l = append(l, job(name, g))
	}
	for _, turns := range []int64{0, 1, 2, 5, 100} {
		l = append(l, job("pagerank", g, turns), job("labels", g, turns))
	}
	for _, k := range []int64{0, 1, 2, 3, 4, 15, 256} {
		l = append(l, job("kcore", g, k))
	}
	for i, v := range g.Vertices {
		if i < 3 || i == len(g.Vertices)-1 {
			l = append(l, job("bfs", g, v.ID), job("sssp", g, v.ID))
		}
	}
	return l
}

// agrees tells whether a job that comes to be Done is right, and whether it is no more where one value is another one; it answers whether it was Done.
func agrees(t *testing.T, j api.Job) bool {
	t.Helper()
	before := graph.Clone(j.Graph)
	o, e := run.Run(j)
	if e != api.OK {
		t.Fatalf("%s %v of %v: %d", j.Program, j.Params, j.Graph, e)
	}
	if got := spec.Right(j, o); got != (o.Kind == api.Done) {
		t.Errorf("%s %v of %v: %v is right: %t", j.Program, j.Params, j.Graph, o, got)
	}
	if o.Kind == api.Done && len(o.Values) > 0 {
		o.Values[len(o.Values)/2].V += 1000003
		right(t, "another value", j, o, false)
	}
	if !graph.Same(j.Graph, before) {
		t.Fatalf("%s: the graph became %v", j.Program, j.Graph)
	}
	return o.Kind == api.Done
}

// Promise 10.3: over all ten programs, where Run is Done, it is Right.
func TestRunIsRight(t *testing.T) {
	ended := map[string]int{}
	for n, g := range graphs() {
		if n%3 != 0 && len(g.Vertices) > 2 && len(g.Vertices) < 6 {
			continue
		}
		for _, j := range jobs(g) {
			if agrees(t, j) {
				ended[j.Program]++
			}
		}
	}
	for _, name := range all() {
		if ended[name] < 100 {
			t.Error(name, "was Done only", ended[name])
		}
	}
}

// Promise 10.3: as many vertices and edges as there may be, all edges one way, where edges back are twice as many as there may be.
func TestRunOfFullIsRight(t *testing.T) {
	g := api.Graph{}
	for i := range int64(api.MaxVertices) {
		v := api.Vertex{ID: i}
		for k := range int64(8) {
			if end := i + k*k + 1; end < api.MaxVertices {
				v.Edges = append(v.Edges, api.Edge{To: end, Weight: i * k % 13})
			}
		}
		g.Vertices = append(g.Vertices, v)
	}
	for i := 0; graph.Edges(g) < api.MaxEdges; i++ {
		g.Vertices[i].Edges = append(g.Vertices[i].Edges, api.Edge{To: 255 - int64(i%4)})
	}
	if e := graph.Check(g); e != api.OK || graph.Edges(g) != api.MaxEdges {
		t.Fatal(e, graph.Edges(g))
	}
	for _, j := range jobs(g) {
		if !agrees(t, j) {
			t.Error(j.Program, j.Params, "is not Done")
		}
	}
}

// Promise 10.3: where Run is not Done, it is not Right: too few supersteps, too many messages, no room.
func TestRunThatFails(t *testing.T) {
	for _, j := range jobs(weighty()) {
		for steps := 1; steps < 12; steps++ {
			for _, sent := range []int{0, 1, 3, api.MaxSent} {
				j.Steps, j.Sent = steps, sent
				agrees(t, j)
			}
		}
	}
	great := of(heavy(1, 2, greatest), heavy(2, 3, 1), heavy(3))
	if agrees(t, job("sssp", great, 1)) || !agrees(t, job("sssp", great, 2)) || !agrees(t, job("bfs", great, 1)) {
		t.Error("room")
	}
}

// Promise 10.3: parts do not matter.
func TestRunInParts(t *testing.T) {
	for _, j := range jobs(wide(30, 1, 5, 7)) {
		for _, parts := range []int{1, 2, api.MaxParts} {
			j.Parts = parts
			agrees(t, j)
		}
	}
}
