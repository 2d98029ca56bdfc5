package spec_test

import (
	"math/big"
	"slices"
	"testing"

	"cohort/api"
	"cohort/graph"
	"cohort/spec"
)

// goes tells whether Far answers so, from a vertex of a graph that is left as it was.
func goes(t *testing.T, g api.Graph, from int64, steps bool, want []int64, wantErr api.Errno) {
	t.Helper()
	before := graph.Clone(g)
	for range 2 {
		got, e := spec.Far(g, from, steps)
		if !slices.Equal(got, want) || e != wantErr {
			t.Errorf("far from %d (steps: %t) of %v: %v with error %d, not %v with %d", from, steps, g, got, e, want, wantErr)
		}
		if !graph.Same(g, before) {
			t.Fatalf("far: the graph became %v, not %v", g, before)
		}
		for i := range got {
			got[i] = -99
		}
	}
}

// relaxed is how far each vertex is, by sums that always have room, made better until none gets better; and whether a sum from one that is reached would have had none.
func relaxed(g api.Graph, from int, steps bool) ([]int64, bool) {
	far := make([]*big.Int, len(g.Vertices))
	far[from] = big.NewInt(0)
	narrow := false
	for range len(g.Vertices) + 1 {
		narrow = false
		for i, v := range g.Vertices {
			if far[i] == nil {
				continue
			}
			for _, edge := range v.Edges {
				sum := big.NewInt(edge.Weight)
				if steps {
					sum = big.NewInt(1)
				}
				sum.Add(sum, far[i])
				narrow = narrow || !sum.IsInt64()
				k := slices.IndexFunc(g.Vertices, func(v api.Vertex) bool { return v.ID == edge.To })
				if far[k] == nil || sum.Cmp(far[k]) < 0 {
					far[k] = sum
				}
			}
		}
	}
	l := make([]int64, len(far))
	for i, n := range far {
		l[i] = -1
		if n != nil {
			l[i] = n.Int64()
		}
	}
	return l, narrow
}

// Promise 10.1: by weights the lightest way counts, by steps the one of the fewest edges; along edges alone, not against them.
func TestFar(t *testing.T) {
	// From 1 to 4 the way of one edge is the heaviest; the lightest one has three.
	g := of(heavy(1, 2, 2, 3, 9, 4, 50), heavy(2, 3, 3), heavy(3, 4, 4), heavy(4, 5, 0), to(5), to(6, 1))
	for _, c := range []struct {
		from           int64
		weights, steps []int64
	}{
		{1, []int64{0, 2, 5, 9, 9, -1}, []int64{0, 1, 1, 1, 2, -1}},
		{2, []int64{-1, 0, 3, 7, 7, -1}, []int64{-1, 0, 1, 2, 3, -1}},
		{3, []int64{-1, -1, 0, 4, 4, -1}, []int64{-1, -1, 0, 1, 2, -1}},
		{4, []int64{-1, -1, -1, 0, 0, -1}, []int64{-1, -1, -1, 0, 1, -1}},
		{5, []int64{-1, -1, -1, -1, 0, -1}, []int64{-1, -1, -1, -1, 0, -1}},
		{6, []int64{1, 3, 6, 10, 10, 0}, []int64{1, 2, 2, 2, 3, 0}},
	} {
		goes(t, g, c.from, false, c.weights, api.OK)
		goes(t, g, c.from, true, c.steps, api.OK)
	}
}

// Promise 10.1: a number that is no vertex.
func TestFarFromNone(t *testing.T) {
	g := of(heavy(-4, 2, greatest), heavy(2, 7, greatest), to(7))
	for _, id := range []int64{least, -5, -3, 0, 1, 3, 6, 8, greatest} {
		for _, steps := range []bool{true, false} {
			// What is named first is told: the sum would have no room, too.
			goes(t, g, id, steps, nil, api.ErrNone)
			goes(t, api.Graph{}, id, steps, nil, api.ErrNone)
		}
	}
}

// Promise 10.1: edges of weight 0, both ways between the same two, and from a vertex to itself.
func TestFarEdges(t *testing.T) {
	for _, c := range []struct {
		name           string
		g              api.Graph
		from           int64
		weights, steps []int64
	}{
		{"weight 0", of(heavy(1, 2, 0), heavy(2, 3, 0), to(3)), 1, []int64{0, 0, 0}, []int64{0, 1, 2}},
		{"weight 0 around", of(heavy(1, 2, 0), heavy(2, 3, 0), heavy(3, 1, 0)), 2, []int64{0, 0, 0}, []int64{2, 0, 1}},
		{"0 rather than 1", of(heavy(1, 2, 1, 3, 0), to(2), heavy(3, 2, 0)), 1, []int64{0, 0, 0}, []int64{0, 1, 1}},
		{"both ways", of(heavy(1, 2, 3), heavy(2, 1, 8)), 1, []int64{0, 3}, []int64{0, 1}},
		{"both ways, from the other one", of(heavy(1, 2, 3), heavy(2, 1, 8)), 2, []int64{8, 0}, []int64{1, 0}},
		{"to itself", of(heavy(1, 1, 5, 2, 4), heavy(2, 2, 0)), 1, []int64{0, 4}, []int64{0, 1}},
		{"to itself alone", of(heavy(1, 1, 5)), 1, []int64{0}, []int64{0}},
		{"one alone", of(to(1)), 1, []int64{0}, []int64{0}},
		{"numbers at the ends", of(heavy(least, greatest, 2), to(0), heavy(greatest, least, 3)), greatest, []int64{3, -1, 0}, []int64{1, -1, 0}},
		{"a better way is found later", of(heavy(1, 2, 10, 3, 1), heavy(2, 5, 1), heavy(3, 4, 1), heavy(4, 2, 1), to(5)), 1,
			[]int64{0, 3, 1, 2, 4}, []int64{0, 1, 1, 2, 2}},
	} {
		t.Run(c.name, func(t *testing.T) {
			goes(t, c.g, c.from, false, c.weights, api.OK)
			goes(t, c.g, c.from, true, c.steps, api.OK)
		})
	}
}

// Promise 10.1: a sum that has no room, and one that just has.
func TestFarRoom(t *testing.T) {
	for _, c := range []struct {
		name string
		g    api.Graph
		want []int64
		e    api.Errno
	}{
		{"one edge of the greatest weight", of(heavy(1, 2, greatest), to(2)), []int64{0, greatest}, api.OK},
		{"and one of weight 0", of(heavy(1, 2, greatest), heavy(2, 3, 0), to(3)), []int64{0, greatest, greatest}, api.OK},
		{"and one of weight 1", of(heavy(1, 2, greatest), heavy(2, 3, 1), to(3)), nil, api.ErrOverflow},
		{"a sum that just has room", of(heavy(1, 2, greatest-7), heavy(2, 3, 7), to(3)), []int64{0, greatest - 7, greatest}, api.OK},
		{"one more", of(heavy(1, 2, greatest-7), heavy(2, 3, 8), to(3)), nil, api.ErrOverflow},
		{"the greatest two", of(heavy(1, 2, greatest), heavy(2, 3, greatest), to(3)), nil, api.ErrOverflow},
		{"where a lighter way leads, too", of(heavy(1, 2, greatest, 3, 5), heavy(2, 3, 1), to(3)), nil, api.ErrOverflow},
		{"on the way back", of(heavy(1, 2, greatest), heavy(2, 1, 1)), nil, api.ErrOverflow},
		{"to itself", of(heavy(1, 2, 1), heavy(2, 2, greatest)), nil, api.ErrOverflow},
		{"to itself from the first one", of(heavy(1, 1, greatest, 2, 1), to(2)), []int64{0, 1}, api.OK},
		{"from one that is nearer by another way", of(heavy(1, 2, greatest, 3, 0), heavy(2, 4, 1), heavy(3, 2, 0), to(4)), []int64{0, 0, 0, 1}, api.OK},
		{"where no way leads", of(to(1), heavy(2, 3, greatest), heavy(3, 2, greatest)), []int64{0, -1, -1}, api.OK},
	} {
		t.Run(c.name, func(t *testing.T) {
			goes(t, c.g, 1, false, c.want, c.e)
			if _, e := spec.Far(c.g, 1, true); e != api.OK {
				t.Error("by steps", e)
			}
		})
	}
}

// Promise 10.1: against sums of any size that are made better one by one.
func TestFarAgainstRelaxed(t *testing.T) {
	for _, g := range graphs() {
		for i, v := range g.Vertices[:min(5, len(g.Vertices))] {
			for _, steps := range []bool{true, false} {
				want, narrow := relaxed(g, i, steps)
				if narrow {
					t.Fatal("no room", g)
				}
				goes(t, g, v.ID, steps, want, api.OK)
			}
		}
	}
}

// Promise 10.1: the same where weights are so great that some sums have no room.
func TestFarAgainstRelaxedGreat(t *testing.T) {
	weights := []int64{0, 1, greatest, greatest / 2, greatest/2 + 1, greatest - 1, 5}
	told := map[api.Errno]int{}
	for n, g := range small() {
		if len(g.Vertices) == 0 {
			continue
		}
		for i, v := range g.Vertices {
			for k := range v.Edges {
				v.Edges[k].Weight = weights[(3*n+5*i+2*k+n/7)%len(weights)]
			}
		}
		for i, v := range g.Vertices {
			want, narrow := relaxed(g, i, false)
			e := api.OK
			if narrow {
				want, e = nil, api.ErrOverflow
			}
			told[e]++
			goes(t, g, v.ID, false, want, e)
		}
	}
	if told[api.OK] < 100 || told[api.ErrOverflow] < 100 {
		t.Error("too few of one kind", told)
	}
}

// Rule R1: weights below 0 do not keep it from ending.
func TestFarBelowZero(t *testing.T) {
	for _, g := range []api.Graph{
		of(heavy(1, 2, -1), heavy(2, 1, -1)),
		of(heavy(1, 1, -5, 2, -9), heavy(2, 1, 3, 3, least), heavy(3, 1, least, 2, least, 3, -1)),
	} {
		goes(t, g, 1, true, []int64{0, 1, 2}[:len(g.Vertices)], api.OK)
		if l, e := spec.Far(g, 1, false); e == api.OK && len(l) != len(g.Vertices) {
			t.Error(l, e)
		}
	}
}
