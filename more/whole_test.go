package more_test

import (
	"slices"
	"testing"

	"cohort/agg"
	"cohort/api"
	"cohort/comb"
	"cohort/graph"
	"cohort/kern"
	"cohort/more"
	"cohort/mut"
)

// whole is a program that is played: the graph as it stands, who has halted, the messages that are there, the last superstep's aggregate.
type whole struct {
	program string
	params  []int64
	g       api.Graph
	halted  map[int64]bool
	box     *comb.Box
	before  api.Aggregate
}

// superstep does one superstep: how many vertices were active.
func (w *whole) superstep(t *testing.T, step int) int {
	t.Helper()
	var sent []api.Message
	var asked []api.Mutation
	active, gave := 0, api.Aggregate{}
	for i, v := range w.g.Vertices {
		if w.halted[v.ID] && !w.box.Has(v.ID) {
			continue
		}
		active++
		l, e := comb.Combine(kern.Combiner(w.program), w.box.For(v.ID))
		out := more.Step(w.program, api.Input{Step: step, Vertex: v, Halted: w.halted[v.ID], Messages: l,
			Before: w.before, Many: len(w.g.Vertices), Params: w.params})
		both, full := agg.Merge(gave, out.Agg)
		if e != api.OK || out.Err != api.OK || full != api.OK {
			t.Fatal(w.program, e, out.Err, full)
		}
		gave, w.halted[v.ID], w.g.Vertices[i].Value = both, out.Halt, out.Value
		sent, asked = append(sent, out.Sent...), append(asked, out.Mutations...)
	}
	w.g, _ = mut.Apply(w.g, asked)
	w.box, w.before = comb.New(), gave
	w.box.Put(sent...)
	return active
}

// play does supersteps of a program until no vertex is active: the values, how many were done, and the last aggregate that there was.
func play(t *testing.T, program string, g api.Graph, params ...int64) ([]int64, int, api.Aggregate) {
	t.Helper()
	if e := more.Check(program, g, params); e != api.OK {
		t.Fatal(program, params, e)
	}
	w := &whole{program: program, params: params, g: graph.Clone(g), halted: map[int64]bool{}, box: comb.New()}
	for step := range api.MaxSteps {
		last := w.before
		if w.superstep(t, step) == 0 {
			return values(w.g), step, last
		}
	}
	t.Fatal(program, "does not end")
	return nil, 0, api.Aggregate{}
}

func values(g api.Graph) []int64 {
	var l []int64
	for _, v := range g.Vertices {
		l = append(l, v.Value)
	}
	return l
}

// comes tells whether a program comes to values in so many supersteps.
func comes(t *testing.T, program string, g api.Graph, params, want []int64, steps int) {
	t.Helper()
	if got, n, _ := play(t, program, g, params...); !slices.Equal(got, want) || n != steps {
		t.Errorf("%s of %v: %v in %d, not %v in %d", program, g, got, n, want, steps)
	}
}

// triangle is 1, 2 and 3, each two of which have an edge, in one direction.
func triangle() api.Graph {
	return api.Graph{Vertices: []api.Vertex{vertex(1, 9, 2, 3), vertex(2, 9, 3), vertex(3, 9)}}
}

// path is 1 - 2 - 3, in one direction.
func path() api.Graph {
	return api.Graph{Vertices: []api.Vertex{vertex(1, 9, 2), vertex(2, 9, 3), vertex(3, 9)}}
}

// The document's example, and others that were worked out by hand.
func TestWhole(t *testing.T) {
	comes(t, "colors", triangle(), nil, []int64{0, 1, 2}, 6)
	comes(t, "colors", path(), nil, []int64{0, 1, 0}, 6)
	comes(t, "triangles", triangle(), nil, []int64{0, 1, 0}, 3)
	comes(t, "triangles", path(), nil, []int64{0, 0, 0}, 2)
	comes(t, "kcore", triangle(), []int64{2}, []int64{2, 2, 2}, 2)
	comes(t, "kcore", triangle(), []int64{3}, []int64{-1, -1, -1}, 3)
	comes(t, "kcore", path(), []int64{2}, []int64{-1, -1, -1}, 4)
	comes(t, "kcore", path(), []int64{1}, []int64{1, 2, 1}, 2)
	comes(t, "matching", triangle(), nil, []int64{2, 1, 3}, 5)
	comes(t, "matching", path(), nil, []int64{2, 1, 3}, 5)
	comes(t, "labels", path(), []int64{0}, []int64{1, 2, 3}, 1)
	comes(t, "labels", path(), []int64{1}, []int64{1, 1, 2}, 2)
	comes(t, "labels", path(), []int64{2}, []int64{1, 1, 1}, 3)
	comes(t, "labels", triangle(), []int64{2}, []int64{1, 1, 1}, 3)
	for _, name := range []string{"colors", "matching", "triangles"} {
		comes(t, name, api.Graph{}, nil, nil, 0)
	}
}

// drawn is the graph of four vertices whose edges are the bits of a number; some bits are edges from a vertex to itself.
func drawn(bits int) api.Graph {
	ids := []int64{-3, 0, 4, 8}
	g := api.Graph{}
	for i, id := range ids {
		var ends []int64
		for k, to := range ids {
			if bits>>(4*i+k)&1 == 1 {
				ends = append(ends, to)
			}
		}
		g.Vertices = append(g.Vertices, vertex(id, int64(7*i-9), ends...))
	}
	return g
}

// near tells, of each two vertices, whether an edge leads from one to the other, whichever way; never from one to itself.
func near(g api.Graph) [][]bool {
	l := make([][]bool, len(g.Vertices))
	for i := range l {
		l[i] = make([]bool, len(g.Vertices))
	}
	for from, edge := range graph.All(g) {
		i, _ := graph.Find(g, from)
		k, _ := graph.Find(g, edge.To)
		l[i][k], l[k][i] = i != k, i != k
	}
	return l
}

// middles is of how many triangles each vertex is the middle one, and how many there are.
func middles(n [][]bool) ([]int64, int64) {
	l, all := make([]int64, len(n)), int64(0)
	for a := range n {
		for b := a + 1; b < len(n); b++ {
			for c := b + 1; c < len(n); c++ {
				if n[a][b] && n[b][c] && n[a][c] {
					l[b]++
					all++
				}
			}
		}
	}
	return l, all
}

// left is how many neighbours in the k-core each vertex has, or -1: those that have too few go, until none has.
func left(n [][]bool, k int) []int64 {
	l := make([]int64, len(n))
	for again := true; again; {
		again = false
		for i := range n {
			if l[i] < 0 {
				continue
			}
			l[i] = 0
			for j := range n {
				if n[i][j] && l[j] >= 0 {
					l[i]++
				}
			}
			if l[i] < int64(k) {
				l[i], again = -1, true
			}
		}
	}
	return l
}

// greedy is the least colour of each vertex, by numbers, that no neighbour ahead has.
func greedy(n [][]bool) []int64 {
	l := make([]int64, len(n))
	for i := range n {
		taken := map[int64]bool{}
		for j := range i {
			if n[i][j] {
				taken[l[j]] = true
			}
		}
		for taken[l[i]] {
			l[i]++
		}
	}
	return l
}

// paired tells whether values are a matching to which no edge can be added.
func paired(g api.Graph, n [][]bool, l []int64) bool {
	free := make([]bool, len(n))
	for i, v := range g.Vertices {
		free[i] = l[i] == v.ID
		k, there := graph.Find(g, l[i])
		if !there || !free[i] && (!n[i][k] || l[k] != v.ID) {
			return false
		}
	}
	for i := range n {
		for k := range n {
			if n[i][k] && free[i] && free[k] {
				return false
			}
		}
	}
	return true
}

// spread is labels behind so many turns: each takes over what most say that have an edge to it.
func spread(g api.Graph, turns int) []int64 {
	var l []int64
	for _, v := range g.Vertices {
		l = append(l, v.ID)
	}
	for range turns {
		next := slices.Clone(l)
		for k, v := range g.Vertices {
			var heard []int64
			for i, u := range g.Vertices {
				for _, edge := range u.Edges {
					if edge.To == v.ID {
						heard = append(heard, l[i])
					}
				}
			}
			slices.Sort(heard)
			most := 0
			for _, x := range heard {
				n := 0
				for _, y := range heard {
					if x == y {
						n++
					}
				}
				if n > most {
					most, next[k] = n, x
				}
			}
		}
		l = next
	}
	return l
}

// Promise 8.1: what the five programs come to, on graphs of four vertices, is what a textbook has.
func TestWholeMany(t *testing.T) {
	for bits := 0; bits < 1<<16; bits += 37 {
		g := drawn(bits)
		n := near(g)
		want, all := middles(n)
		got, steps, last := play(t, "triangles", g)
		if sum, _ := agg.Get(last, api.AggSum); !slices.Equal(got, want) || sum != all || steps > 3 {
			t.Errorf("triangles of %v: %v in %d, not %v, %d in all", g, got, steps, want, sum)
		}
		for k := range 5 {
			if got, _, _ := play(t, "kcore", g, int64(k)); !slices.Equal(got, left(n, k)) {
				t.Errorf("kcore %d of %v: %v, not %v", k, g, got, left(n, k))
			}
		}
		if got, _, _ := play(t, "colors", g); !slices.Equal(got, greedy(n)) {
			t.Errorf("colors of %v: %v, not %v", g, got, greedy(n))
		}
		if got, _, _ := play(t, "matching", g); !paired(g, n, got) {
			t.Errorf("matching of %v: %v", g, got)
		}
		for turns := range 5 {
			if got, done, _ := play(t, "labels", g, int64(turns)); !slices.Equal(got, spread(g, turns)) || done != turns+1 {
				t.Errorf("labels behind %d turns of %v: %v in %d, not %v", turns, g, got, done, spread(g, turns))
			}
		}
	}
}

// Programs of the layer below are played by the same calls.
func TestWholeBelow(t *testing.T) {
	comes(t, "bfs", path(), []int64{1}, []int64{0, 1, 2}, 3)
	comes(t, "degree", path(), nil, []int64{1, 2, 1}, 2)
	comes(t, "cc", path(), nil, []int64{1, 1, 1}, 5)
}
