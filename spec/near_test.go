package spec_test

import (
	"math/bits"
	"testing"

	"cohort/api"
	"cohort/spec"
)

// joined is the least number of each one's component, by ways over ever more vertices.
func joined(g api.Graph) []int64 {
	m := near(g)
	for over := range m {
		for i := range m {
			for k := range m {
				m[i][k] = m[i][k] || m[i][over] && m[over][k]
			}
		}
	}
	var l []int64
	for i, v := range g.Vertices {
		low := v.ID
		for k, other := range g.Vertices {
			if m[i][k] {
				low = min(low, other.ID)
			}
		}
		l = append(l, low)
	}
	return l
}

// Promise 10.1: components are by neighbours, whichever way edges lead.
func TestComponents(t *testing.T) {
	for _, c := range []struct {
		name string
		g    api.Graph
		want []int64
	}{
		{"one alone", of(to(7)), []int64{7}},
		{"itself alone", of(to(7, 7), to(9, 9)), []int64{7, 9}},
		{"edges up", of(to(1, 2), to(2, 3), to(3)), []int64{1, 1, 1}},
		{"edges down", of(to(1), to(2, 1), to(3, 2)), []int64{1, 1, 1}},
		{"all to one", of(to(1, 3), to(2, 3), to(3)), []int64{1, 1, 1}},
		{"all from one", of(to(1), to(2), to(3, 1, 2)), []int64{1, 1, 1}},
		{"there and back", of(to(1, 4), to(2, 3), to(3, 2), to(4, 1)), []int64{1, 2, 2, 1}},
		{"two of them, and one alone", of(to(-5), to(-2, 9), to(0, 4), to(4), to(9)), []int64{-5, -2, 0, 0, -2}},
		{"zigzag", of(to(1, 4), to(2, 4, 5), to(3, 5), to(4), to(5)), []int64{1, 1, 1, 1, 1}},
		{"the ends of numbers", of(to(least), to(0), to(greatest, least)), []int64{least, 0, least}},
	} {
		t.Run(c.name, func(t *testing.T) { gives(t, "components", c.g, c.want, spec.Components) })
	}
	for _, g := range graphs() {
		gives(t, "components", g, joined(g), spec.Components)
	}
}

// Promise 10.1: degrees count edges from and to each; one from itself to itself counts twice.
func TestDegrees(t *testing.T) {
	for _, c := range []struct {
		name string
		g    api.Graph
		want []int64
	}{
		{"one alone", of(to(7)), []int64{0}},
		{"to itself", of(to(7, 7)), []int64{2}},
		{"to itself and another one", of(to(7, 7, 8), to(8)), []int64{3, 1}},
		{"one way", of(to(1, 2), to(2)), []int64{1, 1}},
		{"there and back", of(to(1, 2), to(2, 1)), []int64{2, 2}},
		{"all", of(to(1, 1, 2), to(2, 1, 2)), []int64{4, 4}},
		{"triangle", triangle(), []int64{2, 2, 2}},
		{"all to one", of(to(1, 3), to(2, 3), to(3), to(4, 3)), []int64{1, 1, 3, 1}},
	} {
		t.Run(c.name, func(t *testing.T) { gives(t, "degrees", c.g, c.want, spec.Degrees) })
	}
	for _, g := range graphs() {
		m := matrix(g)
		want := make([]int64, len(m))
		for i := range m {
			for k := range m {
				if m[i][k] {
					want[i]++
				}
				if m[k][i] {
					want[i]++
				}
			}
		}
		gives(t, "degrees", g, want, spec.Degrees)
	}
}

// Promise 10.1: a triangle counts once, for the one of its three whose number is between those of the others.
func TestTriangles(t *testing.T) {
	for _, c := range []struct {
		name string
		g    api.Graph
		want []int64
	}{
		{"one alone", of(to(7, 7)), []int64{0}},
		{"a row", row(3), []int64{0, 0, 0}},
		{"triangle", triangle(), []int64{0, 1, 0}},
		{"around", ring(3), []int64{0, 1, 0}},
		{"around the other way", of(to(1, 3), to(2, 1), to(3, 2)), []int64{0, 1, 0}},
		{"edges down", of(to(1), to(2, 1), to(3, 1, 2)), []int64{0, 1, 0}},
		{"edges both ways", of(to(1, 2, 3), to(2, 1, 3), to(3, 1, 2)), []int64{0, 1, 0}},
		{"and to themselves", of(to(1, 1, 2, 3), to(2, 1, 2, 3), to(3, 1, 2, 3)), []int64{0, 1, 0}},
		{"two and one to itself", of(to(1, 1, 2), to(2, 1, 2)), []int64{0, 0}},
		{"numbers below 0", of(to(-9, -1), to(-1, 5), to(5, -9)), []int64{0, 1, 0}},
		{"four of one another", of(to(1, 2, 3, 4), to(2, 3, 4), to(3, 4), to(4)), []int64{0, 2, 2, 0}},
		{"two triangles with an edge of both", of(to(1, 2, 3), to(2, 3, 4), to(3, 4), to(4)), []int64{0, 1, 1, 0}},
		{"a square", of(to(1, 2, 4), to(2, 3), to(3, 4), to(4)), []int64{0, 0, 0, 0}},
	} {
		t.Run(c.name, func(t *testing.T) { gives(t, "triangles", c.g, c.want, spec.Triangles) })
	}
	for _, g := range graphs() {
		m := near(g)
		want := make([]int64, len(m))
		for a := range m {
			for b := range a {
				for c := range b {
					if m[a][b] && m[b][c] && m[a][c] {
						want[b]++
					}
				}
			}
		}
		gives(t, "triangles", g, want, spec.Triangles)
	}
}

// cored is the k-core by trying all sets: as any two that may be are one that may be together, the greatest one is all of them.
func cored(g api.Graph, k int64) []int64 {
	mask := make([]uint, len(g.Vertices))
	for i, l := range near(g) {
		for n, is := range l {
			if is {
				mask[i] |= 1 << n
			}
		}
	}
	inside := func(i int, set uint) int64 { return int64(bits.OnesCount(mask[i] & set)) }
	greatest := uint(0)
sets:
	for set := range uint(1) << len(mask) {
		for i := range mask {
			if set>>i&1 == 1 && inside(i, set) < k {
				continue sets
			}
		}
		greatest |= set
	}
	var l []int64
	for i := range mask {
		if greatest>>i&1 == 1 {
			l = append(l, inside(i, greatest))
		} else {
			l = append(l, -1)
		}
	}
	return l
}

// core is Core of one k.
func core(k int64) func(api.Graph) []int64 {
	return func(g api.Graph) []int64 { return spec.Core(g, k) }
}

// Promise 10.1: how many neighbours in the k-core each has; the chapter's example is the first two.
func TestCore(t *testing.T) {
	tail := of(to(1, 2), to(2, 3), to(3, 4, 5), to(4, 5), to(5), to(6))
	for _, c := range []struct {
		name string
		g    api.Graph
		k    int64
		want []int64
	}{
		{"triangle", triangle(), 2, []int64{2, 2, 2}},
		{"triangle", triangle(), 3, []int64{-1, -1, -1}},
		{"triangle", triangle(), 1, []int64{2, 2, 2}},
		{"triangle", triangle(), 0, []int64{2, 2, 2}},
		{"one alone", of(to(7)), 0, []int64{0}},
		{"one alone", of(to(7)), 1, []int64{-1}},
		{"itself is no neighbour", of(to(7, 7)), 1, []int64{-1}},
		{"itself is no neighbour", of(to(7, 7)), 0, []int64{0}},
		{"both ways are one neighbour", of(to(1, 2), to(2, 1)), 1, []int64{1, 1}},
		{"both ways are one neighbour", of(to(1, 2), to(2, 1)), 2, []int64{-1, -1}},
		{"a tail", tail, 0, []int64{1, 2, 3, 2, 2, 0}},
		{"a tail", tail, 1, []int64{1, 2, 3, 2, 2, -1}},
		{"a tail, one after another", tail, 2, []int64{-1, -1, 2, 2, 2, -1}},
		{"a tail", tail, 3, []int64{-1, -1, -1, -1, -1, -1}},
		{"a row from behind", row(6), 2, []int64{-1, -1, -1, -1, -1, -1}},
		{"two sets", of(to(1, 2, 3), to(2, 3), to(3, 4), to(4, 5, 6), to(5, 6), to(6)), 2, []int64{2, 2, 3, 3, 2, 2}},
		{"k below 0", tail, -1, []int64{1, 2, 3, 2, 2, 0}},
		{"k far below 0", tail, least, []int64{1, 2, 3, 2, 2, 0}},
		{"k at its end", tail, 256, []int64{-1, -1, -1, -1, -1, -1}},
		{"k far above", tail, greatest, []int64{-1, -1, -1, -1, -1, -1}},
	} {
		t.Run(c.name, func(t *testing.T) { gives(t, "core", c.g, c.want, core(c.k)) })
	}
}

// Promise 10.1: against all sets that there are.
func TestCoreAgainstSets(t *testing.T) {
	for _, g := range append(small(), wide(11, 1, 3, 5), wide(12, 2, 7)) {
		for k := range int64(6) {
			gives(t, "core", g, cored(g, k), core(k))
		}
	}
}

// Promise 10.1: of greater graphs: whoever is in it has at least k in it, and so many as is told.
func TestCoreOfMany(t *testing.T) {
	for _, g := range graphs() {
		m := near(g)
		for _, k := range []int64{0, 1, 2, 3, 5, 8, 13, 16, 17} {
			l := spec.Core(g, k)
			for i, told := range l {
				inside := int64(0)
				for n, is := range m[i] {
					if is && l[n] >= 0 {
						inside++
					}
				}
				if told != inside && told != -1 || told >= 0 && told < k {
					t.Fatalf("core of %v, k %d: %v, place %d", g, k, l, i)
				}
			}
		}
	}
}

// painted is the colour of one vertex, made of those ahead alone.
func painted(m [][]bool, i int, known []int64) int64 {
	for c := int64(0); ; c++ {
		free := true
		for k := range i {
			free = free && !(m[i][k] && known[k] == c)
		}
		if free {
			return c
		}
	}
}

// Promise 10.1: colours are given by numbers, each the least that no neighbour ahead has.
func TestColors(t *testing.T) {
	for _, c := range []struct {
		name string
		g    api.Graph
		want []int64
	}{
		{"one alone", of(to(7)), []int64{0}},
		{"itself is no neighbour", of(to(7, 7)), []int64{0}},
		{"triangle", triangle(), []int64{0, 1, 2}},
		{"edges down", of(to(1), to(2, 1), to(3, 1, 2)), []int64{0, 1, 2}},
		{"a row", row(5), []int64{0, 1, 0, 1, 0}},
		{"an odd ring", ring(5), []int64{0, 1, 0, 1, 2}},
		{"none that are behind count", of(to(1, 4), to(2, 4), to(3, 4), to(4)), []int64{0, 0, 0, 1}},
		{"a gap", of(to(1), to(2, 1), to(3, 2), to(4, 2, 1), to(5, 4)), []int64{0, 1, 0, 2, 0}},
		{"a gap between", of(to(1), to(2, 1), to(3, 1, 2), to(4, 1, 3), to(5)), []int64{0, 1, 2, 1, 0}},
		{"all of one another", of(to(-2, -1, 0, 1, 2), to(-1, 0, 1, 2), to(0, 1, 2), to(1, 2), to(2)), []int64{0, 1, 2, 3, 4}},
	} {
		t.Run(c.name, func(t *testing.T) { gives(t, "colors", c.g, c.want, spec.Colors) })
	}
	for _, g := range graphs() {
		m := near(g)
		var want []int64
		for i := range m {
			want = append(want, painted(m, i, want))
		}
		gives(t, "colors", g, want, spec.Colors)
	}
}
