package spec_test

import (
	"slices"
	"testing"

	"cohort/api"
	"cohort/graph"
	"cohort/spec"
)

// job is a job with limits that are never met.
func job(program string, g api.Graph, params ...int64) api.Job {
	return api.Job{Program: program, Graph: g, Params: params, Steps: api.MaxSteps, Sent: api.MaxSent, Parts: 1}
}

// done is an outcome that is Done, with values by a graph's vertices.
func done(g api.Graph, values ...int64) api.Outcome {
	o := api.Outcome{Kind: api.Done, Steps: 3}
	for i, v := range values {
		o.Values = append(o.Values, api.Value{ID: g.Vertices[i].ID, V: v})
	}
	return o
}

func cloneOutcome(o api.Outcome) api.Outcome {
	o.Values = slices.Clone(o.Values)
	return o
}

// right tells whether Right answers so, and leaves what it is given as it was.
func right(t *testing.T, what string, j api.Job, o api.Outcome, want bool) {
	t.Helper()
	g, params, values := graph.Clone(j.Graph), slices.Clone(j.Params), slices.Clone(o.Values)
	if got := spec.Right(j, o); got != want {
		t.Errorf("%s: %s %v of %v, %v: %t", what, j.Program, j.Params, j.Graph, o, got)
	}
	if !graph.Same(j.Graph, g) || !slices.Equal(j.Params, params) || !slices.Equal(o.Values, values) {
		t.Fatalf("%s: %s: what was handed in became %v, %v", what, j.Program, j, o)
	}
}

// worked is a job, and values that it comes to.
type worked struct {
	j      api.Job
	values []int64
}

// weighty is 1 to 2, 1 to 3, 2 to 3, 4 to 1, and 5 alone. From 1 to 3 the way over 2 is the lighter one.
func weighty() api.Graph {
	return of(heavy(1, 2, 5, 3, 9), heavy(2, 3, 3), heavy(3), heavy(4, 1, 2), heavy(5))
}

// byHand is jobs of all ten programs on one graph, worked out by hand.
func byHand() []worked {
	g := weighty()
	return []worked{
		{job("bfs", g, 1), []int64{0, 1, 1, -1, -1}},
		{job("bfs", g, 4), []int64{1, 2, 2, 0, -1}},
		{job("sssp", g, 1), []int64{0, 5, 8, -1, -1}},
		{job("sssp", g, 4), []int64{2, 7, 10, 0, -1}},
		{job("cc", g), []int64{1, 1, 1, 1, 5}},
		{job("degree", g), []int64{3, 2, 2, 1, 0}},
		{job("pagerank", g, 0), []int64{200000, 200000, 200000, 200000, 200000}},
		{job("pagerank", g, 1), []int64{200000, 115000, 285000, 30000, 30000}},
		{job("labels", g, 0), []int64{1, 2, 3, 4, 5}},
		{job("labels", g, 1), []int64{4, 1, 1, 4, 5}},
		{job("labels", g, 2), []int64{4, 4, 1, 4, 5}},
		{job("triangles", g), []int64{0, 1, 0, 0, 0}},
		{job("kcore", g, 0), []int64{3, 2, 2, 1, 0}},
		{job("kcore", g, 1), []int64{3, 2, 2, 1, -1}},
		{job("kcore", g, 2), []int64{2, 2, 2, -1, -1}},
		{job("kcore", g, 3), []int64{-1, -1, -1, -1, -1}},
		{job("colors", g), []int64{0, 1, 2, 1, 0}},
		{job("matching", g), []int64{2, 1, 3, 4, 5}},
		{job("matching", g), []int64{4, 3, 2, 1, 5}},
		{job("matching", g), []int64{3, 2, 1, 4, 5}},
	}
}

// Promise 10.2: outcomes that are Done and right, whatever else they tell.
func TestRight(t *testing.T) {
	seen := map[string]int{}
	for _, c := range byHand() {
		seen[c.j.Program]++
		o := done(c.j.Graph, c.values...)
		right(t, "by hand", c.j, o, true)
		for _, steps := range []int{0, 1, api.MaxSteps, -1} {
			o.Steps = steps
			right(t, "supersteps", c.j, o, true)
		}
	}
	for _, name := range all() {
		if seen[name] == 0 {
			t.Error("no job of", name)
		}
	}
}

// Promise 10.2: outcomes that are not Done.
func TestRightNotDone(t *testing.T) {
	for _, c := range byHand() {
		for _, kind := range []int{0, api.Failed, 3, -1, 256 + api.Done} {
			o := done(c.j.Graph, c.values...)
			o.Kind = kind
			right(t, "not done", c.j, o, false)
		}
		right(t, "failed", c.j, api.Outcome{Kind: api.Failed, Err: api.ErrSteps, Steps: 1}, false)
		right(t, "nothing", c.j, api.Outcome{}, false)
	}
}

// Promise 10.2: values of which one is another one.
func TestRightOtherValue(t *testing.T) {
	for _, c := range byHand() {
		for i, v := range c.values {
			for _, other := range []int64{v + 1, v - 1, -1, -2, 0, 99, least, greatest} {
				if other == v {
					continue
				}
				o := done(c.j.Graph, c.values...)
				o.Values[i].V = other
				right(t, "another value", c.j, o, false)
			}
		}
	}
}

// Promise 10.2: values of other vertices, too few, too many, one twice, and not by their numbers.
func TestRightOtherVertices(t *testing.T) {
	for _, c := range byHand() {
		good := done(c.j.Graph, c.values...)
		for i := range good.Values {
			for _, id := range []int64{-1, 0, 6, 99, least, greatest} {
				o := cloneOutcome(good)
				o.Values[i].ID = id
				right(t, "another vertex", c.j, o, false)
			}
			o := cloneOutcome(good)
			o.Values = slices.Delete(o.Values, i, i+1)
			right(t, "too few", c.j, o, false)
			o = cloneOutcome(good)
			o.Values = slices.Insert(o.Values, i, o.Values[i])
			right(t, "one twice", c.j, o, false)
			o = cloneOutcome(good)
			o.Values[i] = o.Values[(i+1)%len(o.Values)]
			right(t, "one instead of another one", c.j, o, false)
			o = cloneOutcome(good)
			k := (i + 1) % len(o.Values)
			o.Values[i], o.Values[k] = o.Values[k], o.Values[i]
			right(t, "not by numbers", c.j, o, false)
		}
		o := cloneOutcome(good)
		o.Values = append(o.Values, api.Value{ID: 6, V: 0})
		right(t, "too many", c.j, o, false)
		o.Values = append([]api.Value{{ID: 0, V: 0}}, good.Values...)
		right(t, "too many ahead", c.j, o, false)
		o.Values = nil
		right(t, "none", c.j, o, false)
	}
}

// Promise 10.2: what is right for one program or parameter is not right for another one, where they come to something else.
func TestRightOfOthers(t *testing.T) {
	l := byHand()
	for _, a := range l {
		for _, b := range l {
			if b.j.Program == "matching" {
				continue
			}
			want := slices.Equal(a.values, b.values)
			right(t, "another job's values", b.j, done(b.j.Graph, a.values...), want)
		}
	}
}

// Promise 10.2: a program that is unknown has nothing that is right.
func TestRightUnknown(t *testing.T) {
	for _, name := range strangers() {
		for _, params := range [][]int64{nil, {0}, {1}} {
			right(t, "unknown", job(name, triangle(), params...), done(triangle(), 0, 0, 0), false)
			right(t, "unknown", job(name, api.Graph{}, params...), done(api.Graph{}), false)
		}
		for _, c := range byHand() {
			c.j.Program = name
			right(t, "unknown", c.j, done(c.j.Graph, c.values...), false)
		}
	}
}

// Promise 10.2: parameters by which the textbook says nothing.
func TestRightParams(t *testing.T) {
	for _, c := range byHand() {
		if len(c.j.Params) == 0 {
			continue
		}
		c.j.Params = nil
		right(t, "without a parameter", c.j, done(c.j.Graph, c.values...), false)
		c.j.Params = []int64{}
		right(t, "without a parameter", c.j, done(c.j.Graph, c.values...), false)
	}
	g := weighty()
	for _, name := range []string{"bfs", "sssp"} {
		for _, id := range []int64{0, 6, -1, least, greatest} {
			right(t, "from no vertex", job(name, g, id), done(g, 0, 1, 1, -1, -1), false)
			right(t, "from no vertex", job(name, g, id), done(g, -1, -1, -1, -1, -1), false)
			right(t, "from no vertex", job(name, g, id), done(g), false)
		}
	}
}

// Promise 10.2: where a sum has no room, nothing is right; by steps it is.
func TestRightNoRoom(t *testing.T) {
	g := of(heavy(1, 2, greatest), heavy(2, 3, 1), heavy(3))
	for _, values := range [][]int64{{0, greatest, least}, {0, greatest, -1}, {0, greatest, greatest}, {0, 1, 2}, {0, 0, 0}} {
		right(t, "no room", job("sssp", g, 1), done(g, values...), false)
	}
	right(t, "no room", job("sssp", g, 1), done(g), false)
	right(t, "by steps", job("bfs", g, 1), done(g, 0, 1, 2), true)
	right(t, "from behind", job("sssp", g, 2), done(g, -1, 0, 1), true)
}

// Promise 10.2: weights are of sssp alone, and the values that vertices have at first are of none.
func TestRightWeights(t *testing.T) {
	for _, c := range byHand() {
		if c.j.Program == "sssp" {
			continue
		}
		for i, v := range c.j.Graph.Vertices {
			c.j.Graph.Vertices[i].Value = int64(90 + i)
			for k := range v.Edges {
				v.Edges[k].Weight = int64(-5 * i)
			}
		}
		right(t, "weights", c.j, done(c.j.Graph, c.values...), true)
	}
}

// Promise 10.2: of a graph without vertices, no values are right; of bfs and sssp there is no such job.
func TestRightWithoutVertices(t *testing.T) {
	for _, name := range all() {
		for _, g := range []api.Graph{{}, {Vertices: []api.Vertex{}}} {
			j, want := job(name, g, 0), name != "bfs" && name != "sssp"
			right(t, "no vertices", j, api.Outcome{Kind: api.Done}, want)
			right(t, "no vertices", j, api.Outcome{Kind: api.Done, Values: []api.Value{}}, want)
			right(t, "no vertices", j, api.Outcome{Kind: api.Failed}, false)
			right(t, "a value", j, api.Outcome{Kind: api.Done, Values: []api.Value{{}}}, false)
		}
	}
}
