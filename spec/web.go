package spec

import (
	"slices"

	"cohort/api"
	"cohort/graph"
)

// web is a graph by places: a vertex's place is where its number stands among all numbers, so that what is told by places is told by numbers.
type web struct {
	ids  []int64
	out  [][]arc
	near [][]int // neighbours, rising
}

// arc is an edge to a place.
type arc struct {
	to     int
	weight int64
}

// weave leans on nothing that graph.Check asks for, since a graph that may not be is answered, too: vertices of one number are one, and an edge to no vertex is none.
func weave(g api.Graph) web {
	ids := numbers(g)
	w := web{ids: ids, out: make([][]arc, len(ids)), near: make([][]int, len(ids))}
	for from, edge := range graph.All(g) {
		a, _ := w.place(from)
		b, there := w.place(edge.To)
		if !there {
			continue
		}
		w.out[a] = append(w.out[a], arc{to: b, weight: edge.Weight})
		if a != b {
			w.near[a] = append(w.near[a], b)
			w.near[b] = append(w.near[b], a)
		}
	}
	for i, l := range w.near {
		slices.Sort(l)
		w.near[i] = slices.Compact(l)
	}
	return w
}

// numbers is the numbers of a graph's vertices, rising.
func numbers(g api.Graph) []int64 {
	l := make([]int64, 0, len(g.Vertices))
	for _, v := range g.Vertices {
		l = append(l, v.ID)
	}
	slices.Sort(l)
	return slices.Compact(l)
}

// place is where a vertex stands, if it is there.
func (w web) place(id int64) (int, bool) {
	return slices.BinarySearch(w.ids, id)
}

// neighbours tells whether two places are of neighbours.
func (w web) neighbours(a, b int) bool {
	_, there := slices.BinarySearch(w.near[a], b)
	return there
}
