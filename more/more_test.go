package more_test

import (
	"slices"
	"testing"

	"cohort/api"
	"cohort/graph"
	"cohort/kern"
	"cohort/more"
)

// some is a graph that all programs may be done on: no weight is below 0.
func some() api.Graph {
	return api.Graph{Vertices: []api.Vertex{
		{ID: -4, Value: 50, Edges: []api.Edge{{To: 2, Weight: 0}, {To: 7, Weight: 9}}},
		{ID: 0},
		{ID: 2, Value: -1, Edges: []api.Edge{{To: -4, Weight: 1}, {To: 2, Weight: 5}}},
		{ID: 7, Value: 3, Edges: []api.Edge{{To: 2, Weight: 8}}},
	}}
}

// Promise 8.1: all ten are known, and no others are.
func TestKnown(t *testing.T) {
	for _, name := range slices.Concat(five(), below()) {
		if !more.Known(name) {
			t.Errorf("%q is not known", name)
		}
	}
	for _, name := range strangers() {
		if more.Known(name) {
			t.Errorf("%q is known", name)
		}
	}
}

// checks asks for each list of parameters, and whether all that was handed in is as it was.
func checks(t *testing.T, program string, want api.Errno, lists ...[]int64) {
	t.Helper()
	for _, g := range []api.Graph{some(), {}} {
		before := graph.Clone(g)
		for _, l := range lists {
			was := slices.Clone(l)
			if got := more.Check(program, g, l); got != want {
				t.Errorf("%q with %v: %d, not %d", program, l, got, want)
			}
			if !slices.Equal(l, was) || !graph.Same(g, before) {
				t.Errorf("%q: what was handed in became %v, %v", program, l, g)
			}
		}
	}
}

// Promise 8.1: labels has one parameter, 0 to 100.
func TestCheckLabels(t *testing.T) {
	checks(t, "labels", api.OK, []int64{0}, []int64{1}, []int64{50}, []int64{99}, []int64{100})
	checks(t, "labels", api.ErrParams, nil, []int64{}, []int64{-1}, []int64{101}, []int64{256}, []int64{least}, []int64{greatest},
		[]int64{0, 0}, []int64{5, 5}, []int64{1, 2, 3, 4, 5})
}

// Promise 8.1: kcore has one parameter, 0 to 256.
func TestCheckKcore(t *testing.T) {
	checks(t, "kcore", api.OK, []int64{0}, []int64{1}, []int64{100}, []int64{101}, []int64{255}, []int64{256})
	checks(t, "kcore", api.ErrParams, nil, []int64{}, []int64{-1}, []int64{257}, []int64{least}, []int64{greatest},
		[]int64{0, 0}, []int64{2, 2}, []int64{1, 2, 3, 4, 5})
}

// Promise 8.1: triangles, matching and colors have none.
func TestCheckNone(t *testing.T) {
	for _, name := range []string{"triangles", "matching", "colors"} {
		checks(t, name, api.OK, nil, []int64{})
		checks(t, name, api.ErrParams, []int64{0}, []int64{-1}, []int64{2}, []int64{0, 0}, []int64{1, 2, 3, 4, 5})
	}
}

// Promise 8.1: what is none of the ten is told ahead of parameters that may not be.
func TestCheckUnknown(t *testing.T) {
	for _, name := range strangers() {
		checks(t, name, api.ErrProgram, nil, []int64{}, []int64{2}, []int64{-1}, []int64{101}, []int64{257}, []int64{1, 2, 3, 4, 5})
	}
}

// Promise 8.1: of kern's programs what kern tells, of graphs with weights below 0 and with none.
func TestCheckBelow(t *testing.T) {
	light := some()
	light.Vertices[3].Edges[0].Weight = -1
	lists := [][]int64{nil, {}, {-4}, {0}, {1}, {2}, {-1}, {100}, {101}, {256}, {least}, {greatest}, {2, 2}, {1, 2, 3, 4, 5}}
	told := map[api.Errno]int{}
	for _, name := range below() {
		for _, g := range []api.Graph{some(), light, {}} {
			for _, l := range lists {
				got, want := more.Check(name, g, l), kern.Check(name, g, l)
				if got != want {
					t.Errorf("%q with %v: %d, not %d", name, l, got, want)
				}
				told[got]++
			}
		}
	}
	if told[api.OK] == 0 || told[api.ErrParams] == 0 || len(told) != 2 {
		t.Error("the cases are not of both kinds", told)
	}
	if e := more.Check("sssp", light, []int64{2}); e != api.ErrParams {
		t.Error("a weight below 0", e)
	}
	if e := more.Check("bfs", light, []int64{2}); e != api.OK {
		t.Error("a source", e)
	}
}
