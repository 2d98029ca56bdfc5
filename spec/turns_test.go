package spec_test

import (
	"math/big"
	"slices"
	"testing"

	"cohort/api"
	"cohort/spec"
)

// towards0 is a times b over c, towards 0, in numbers of any size.
func towards0(a, b, c int64) int64 {
	n := new(big.Int).Mul(big.NewInt(a), big.NewInt(b))
	return n.Quo(n, big.NewInt(c)).Int64()
}

// firstRanks is the ranks ahead of all turns.
func firstRanks(g api.Graph) []int64 {
	l := make([]int64, len(g.Vertices))
	for i := range l {
		l[i] = towards0(1, 1000000, int64(len(l)))
	}
	return l
}

// nextRanks is the ranks behind one turn more: each asks all who have an edge to it.
func nextRanks(g api.Graph, l []int64) []int64 {
	m := matrix(g)
	next := make([]int64, len(l))
	for i := range l {
		sum := int64(0)
		for from, v := range g.Vertices {
			if m[from][i] {
				sum += towards0(l[from], 1, int64(len(v.Edges)))
			}
		}
		next[i] = towards0(15, 10000, int64(len(l))) + towards0(sum, 85, 100)
	}
	return next
}

// firstLabels is the labels ahead of all turns.
func firstLabels(g api.Graph) []int64 {
	l := make([]int64, len(g.Vertices))
	for i, v := range g.Vertices {
		l[i] = v.ID
	}
	return l
}

// nextLabels is the labels behind one turn more: each counts every label among those who have an edge to it.
func nextLabels(g api.Graph, l []int64) []int64 {
	m := matrix(g)
	next := slices.Clone(l)
	for i := range l {
		most := 0
		for _, v := range g.Vertices {
			times := 0
			for from := range l {
				if m[from][i] && l[from] == v.ID {
					times++
				}
			}
			// Vertices rise, and so the least of several comes first.
			if times > most {
				next[i], most = v.ID, times
			}
		}
	}
	return next
}

func ranks(turns int64) func(api.Graph) []int64 {
	return func(g api.Graph) []int64 { return spec.Ranks(g, turns) }
}

func labels(turns int64) func(api.Graph) []int64 {
	return func(g api.Graph) []int64 { return spec.Labels(g, turns) }
}

// Promise 10.1: ranks behind no turn, one and several, worked out by hand.
func TestRanks(t *testing.T) {
	for _, c := range []struct {
		name  string
		g     api.Graph
		turns int64
		want  []int64
	}{
		{"one alone, no turn", of(to(1)), 0, []int64{1000000}},
		{"one alone, a turn", of(to(1)), 1, []int64{150000}},
		{"one alone, two turns", of(to(1)), 2, []int64{150000}},
		{"to itself", of(to(1, 1)), 1, []int64{1000000}},
		{"1 to 2, no turn", of(to(1, 2), to(2)), 0, []int64{500000, 500000}},
		{"1 to 2, a turn", of(to(1, 2), to(2)), 1, []int64{75000, 500000}},
		{"1 to 2, two turns", of(to(1, 2), to(2)), 2, []int64{75000, 138750}},
		{"1 to 2, three turns", of(to(1, 2), to(2)), 3, []int64{75000, 138750}},
		{"three, no turn: towards 0", triangle(), 0, []int64{333333, 333333, 333333}},
		// 333333 / 2 = 166666; 85 hundredths of it: 141666; of 499999: 424999.
		{"three, a turn", triangle(), 1, []int64{50000, 191666, 474999}},
		{"three, two turns", triangle(), 2, []int64{50000, 71250, 234166}},
		{"turns below 0 are none", of(to(1, 2), to(2)), -1, []int64{500000, 500000}},
		{"turns far below 0", of(to(1, 2), to(2)), least, []int64{500000, 500000}},
	} {
		t.Run(c.name, func(t *testing.T) { gives(t, "ranks", c.g, c.want, ranks(c.turns)) })
	}
}

// Promise 10.1: labels behind no turn, one and several, worked out by hand.
func TestLabels(t *testing.T) {
	for _, c := range []struct {
		name  string
		g     api.Graph
		turns int64
		want  []int64
	}{
		{"one alone", of(to(7)), 3, []int64{7}},
		{"to itself", of(to(7, 7)), 3, []int64{7}},
		{"no turn", ring(4), 0, []int64{1, 2, 3, 4}},
		{"around, a turn", ring(4), 1, []int64{4, 1, 2, 3}},
		{"around, three turns", ring(4), 3, []int64{2, 3, 4, 1}},
		{"around, four turns", ring(4), 4, []int64{1, 2, 3, 4}},
		{"along edges, not against them", row(3), 1, []int64{1, 1, 2}},
		{"along edges, two turns", row(3), 2, []int64{1, 1, 1}},
		{"the least of several", of(to(1), to(4, 1), to(6, 1), to(9, 1)), 1, []int64{4, 4, 6, 9}},
		{"the least of several that are below 0", of(to(-4, 1), to(-2, 1), to(1)), 1, []int64{-4, -2, -4}},
		{"itself among them", of(to(1, 3), to(2, 3), to(3, 3)), 1, []int64{1, 2, 1}},
		// Behind one turn 4, 5 have label 3, and 2 keeps its own: 3 is said twice to 1.
		{"most say so", of(to(1), to(2, 1), to(3, 4, 5), to(4, 1), to(5, 1)), 2, []int64{3, 2, 3, 3, 3}},
		{"both ways", of(to(1, 2), to(2, 1)), 1, []int64{2, 1}},
		{"both ways, two turns", of(to(1, 2), to(2, 1)), 2, []int64{1, 2}},
		{"turns below 0 are none", ring(4), -1, []int64{1, 2, 3, 4}},
		{"turns far below 0", ring(4), least, []int64{1, 2, 3, 4}},
	} {
		t.Run(c.name, func(t *testing.T) { gives(t, "labels", c.g, c.want, labels(c.turns)) })
	}
}

// Promise 10.1: against a second definition, turn by turn.
func TestTurnByTurn(t *testing.T) {
	for _, g := range graphs() {
		r, l := firstRanks(g), firstLabels(g)
		turns := int64(12)
		if len(g.Vertices) > 100 {
			turns = 3
		}
		for n := range turns + 1 {
			gives(t, "ranks", g, r, ranks(n))
			gives(t, "labels", g, l, labels(n))
			r, l = nextRanks(g, r), nextLabels(g, l)
		}
	}
}

// Promise 10.1: as many turns as there may be, and more, where values go round and where they come to rest.
func TestManyTurns(t *testing.T) {
	together := of(to(1, 2), to(2, 3), to(3, 1), to(4, 5), to(5, 6), to(6, 7), to(7, 8), to(8, 4))
	tail := of(to(1, 2), to(2, 3), to(3, 4), to(4, 5), to(5, 6), to(6, 4))
	for _, g := range []api.Graph{ring(1), ring(2), ring(5), ring(13), row(7), together, tail, triangle(), wide(17, 1), wide(12, 1, 5, 7)} {
		r, l := firstRanks(g), firstLabels(g)
		for n := range int64(205) {
			gives(t, "ranks", g, r, ranks(n))
			gives(t, "labels", g, l, labels(n))
			r, l = nextRanks(g, r), nextLabels(g, l)
		}
	}
}

// Rule R1: it ends, however many turns there are, and answers what they come to.
func TestTurnsWithoutEnd(t *testing.T) {
	for _, turns := range []int64{1 << 40, 1<<62 + 1, greatest - 1, greatest} {
		for _, many := range []int64{1, 2, 3, 5, 64, 255} {
			want := labels(turns % many)(ring(many))
			gives(t, "labels", ring(many), want, labels(turns))
			gives(t, "ranks", ring(many), ranks(2000)(ring(many)), ranks(turns))
		}
		// Three go round behind a tail, which takes three turns to come in.
		tail := of(to(1, 2), to(2, 3), to(3, 4), to(4, 5), to(5, 6), to(6, 4))
		gives(t, "labels", tail, labels(30+turns%3)(tail), labels(turns))
		gives(t, "ranks", row(9), ranks(9)(row(9)), ranks(turns))
		gives(t, "ranks", api.Graph{}, nil, ranks(turns))
		gives(t, "labels", api.Graph{}, nil, labels(turns))
	}
}
