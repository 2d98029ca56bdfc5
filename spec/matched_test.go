package spec_test

import (
	"fmt"
	"slices"
	"testing"

	"cohort/api"
	"cohort/graph"
	"cohort/spec"
)

// matches tells whether Matched answers so, and leaves what it is given as it was.
func matches(t *testing.T, g api.Graph, l []int64, want bool) {
	t.Helper()
	before, given := graph.Clone(g), slices.Clone(l)
	if got := spec.Matched(g, l); got != want {
		t.Errorf("matched of %v, %v: %t", g, l, got)
	}
	if !graph.Same(g, before) || !slices.Equal(l, given) {
		t.Fatalf("%v became %v, %v became %v", before, g, given, l)
	}
}

// Promise 10.1: which lists are matchings to which no edge can be added.
func TestMatched(t *testing.T) {
	square := of(to(1, 2, 4), to(2, 3), to(3, 4), to(4))
	for _, c := range []struct {
		name string
		g    api.Graph
		l    []int64
		want bool
	}{
		{"one alone is free", of(to(7)), []int64{7}, true},
		{"one with an edge to itself is free", of(to(7, 7)), []int64{7}, true},
		{"a number that is no vertex", of(to(7)), []int64{8}, false},
		{"a pair", of(to(1, 2), to(2)), []int64{2, 1}, true},
		{"a pair by an edge down", of(to(1), to(2, 1)), []int64{2, 1}, true},
		{"a pair by edges both ways", of(to(1, 2), to(2, 1)), []int64{2, 1}, true},
		{"an edge can be added", of(to(1, 2), to(2)), []int64{1, 2}, false},
		{"an edge down can be added", of(to(1), to(2, 1)), []int64{1, 2}, false},
		{"two that are no neighbours are free", of(to(1), to(2)), []int64{1, 2}, true},
		{"two that are no neighbours are no pair", of(to(1), to(2)), []int64{2, 1}, false},
		{"it does not have it back", of(to(1, 2), to(2)), []int64{2, 2}, false},
		{"the other one does not", of(to(1, 2), to(2)), []int64{1, 1}, false},
		{"triangle: one is free", triangle(), []int64{2, 1, 3}, true},
		{"triangle: another one", triangle(), []int64{3, 2, 1}, true},
		{"triangle: the first one", triangle(), []int64{1, 3, 2}, true},
		{"triangle: all are free", triangle(), []int64{1, 2, 3}, false},
		{"triangle: around", triangle(), []int64{2, 3, 1}, false},
		{"triangle: two want one", triangle(), []int64{2, 1, 1}, false},
		{"square: two pairs", square, []int64{2, 1, 4, 3}, true},
		{"square: the other two pairs", square, []int64{4, 3, 2, 1}, true},
		{"square: the ones across", square, []int64{3, 4, 1, 2}, false},
		{"square: one pair", square, []int64{2, 1, 3, 4}, false},
		{"square: the other pair", square, []int64{1, 2, 4, 3}, false},
		{"a row: the middle ones", row(4), []int64{1, 3, 2, 4}, true},
		{"a row: the outer ones", row(4), []int64{2, 1, 4, 3}, true},
		{"a row: the first two", row(4), []int64{2, 1, 3, 4}, false},
		{"too few", triangle(), []int64{2, 1}, false},
		{"too many", triangle(), []int64{2, 1, 3, 4}, false},
		{"too many, one again", triangle(), []int64{2, 1, 3, 3}, false},
		{"none", triangle(), nil, false},
		{"places are no numbers", of(to(5, 6), to(6)), []int64{1, 0}, false},
		{"numbers at the ends", of(to(least, greatest), to(0), to(greatest)), []int64{greatest, 0, least}, true},
	} {
		t.Run(c.name, func(t *testing.T) { matches(t, c.g, c.l, c.want) })
	}
}

// pairings is all matchings of a graph to which no edge can be added, as lists, by choosing edges in all ways.
func pairings(g api.Graph) map[string]struct{} {
	m := near(g)
	found := map[string]struct{}{}
	var choose func(partner []int)
	choose = func(partner []int) {
		more := false
		for a := range m {
			for b := range a {
				if m[a][b] && partner[a] == a && partner[b] == b {
					more = true
					next := slices.Clone(partner)
					next[a], next[b] = b, a
					choose(next)
				}
			}
		}
		if !more {
			var l []int64
			for _, k := range partner {
				l = append(l, g.Vertices[k].ID)
			}
			found[fmt.Sprint(l)] = struct{}{}
		}
	}
	var nobody []int
	for i := range m {
		nobody = append(nobody, i)
	}
	choose(nobody)
	return found
}

// lists is all lists of so many of some numbers.
func lists(many int, numbers []int64) [][]int64 {
	l := [][]int64{nil}
	for range many {
		var longer [][]int64
		for _, ahead := range l {
			for _, n := range numbers {
				longer = append(longer, append(slices.Clone(ahead), n))
			}
		}
		l = longer
	}
	return l
}

// Promise 10.1: of all lists that there are, those count that come of choosing edges until no more can be.
func TestMatchedAgainstChoosing(t *testing.T) {
	for n, g := range small() {
		if len(g.Vertices) > 3 && n%9 != 0 || len(g.Vertices) > 4 && n%27 != 0 {
			continue
		}
		numbers := []int64{77}
		for _, v := range g.Vertices {
			numbers = append(numbers, v.ID)
		}
		right := pairings(g)
		for _, l := range lists(len(g.Vertices), numbers) {
			_, want := right[fmt.Sprint(l)]
			matches(t, g, l, want)
		}
	}
}
