package spec

import (
	"slices"

	"cohort/api"
)

// Components is the least number of each vertex's component.
func Components(g api.Graph) []int64 {
	w := weave(g)
	least, found := make([]int64, len(w.ids)), make([]bool, len(w.ids))
	for i, id := range w.ids {
		if found[i] {
			continue
		}
		// Numbers rise: the first one that is found of a component is its least.
		found[i] = true
		for open := []int{i}; len(open) > 0; {
			at := open[len(open)-1]
			open = open[:len(open)-1]
			least[at] = id
			for _, n := range w.near[at] {
				if !found[n] {
					found[n] = true
					open = append(open, n)
				}
			}
		}
	}
	return least
}

// Degrees is how many edges lead from and to each vertex.
func Degrees(g api.Graph) []int64 {
	w := weave(g)
	many := make([]int64, len(w.ids))
	for i, l := range w.out {
		for _, a := range l {
			many[i]++
			many[a.to]++
		}
	}
	return many
}

// Triangles is how many triangles have each vertex as the middle one, by number.
func Triangles(g api.Graph) []int64 {
	w := weave(g)
	many := make([]int64, len(w.ids))
	for i, l := range w.near {
		at, _ := slices.BinarySearch(l, i)
		for _, low := range l[:at] {
			for _, high := range l[at:] {
				if w.neighbours(low, high) {
					many[i]++
				}
			}
		}
	}
	return many
}

// Core is how many neighbours each vertex has in the k-core; -1: it is not in it.
func Core(g api.Graph, k int64) []int64 {
	w := weave(g)
	left := make([]int64, len(w.ids))
	for i, l := range w.near {
		left[i] = int64(len(l))
	}
peel:
	for {
		for i, n := range left {
			if n >= 0 && n < k {
				w.leave(i, left)
				// One that was passed may have too few by now.
				continue peel
			}
		}
		return left
	}
}

// leave takes a vertex out of those that are left, and from the numbers of its neighbours that are.
func (w web) leave(i int, left []int64) {
	left[i] = -1
	for _, n := range w.near[i] {
		if left[n] >= 0 {
			left[n]--
		}
	}
}

// Colors is the colours that are given by numbers, each the least that no neighbour ahead has.
func Colors(g api.Graph) []int64 {
	w := weave(g)
	colors := make([]int64, len(w.ids))
	for i, l := range w.near {
	next:
		for c := int64(0); ; c++ {
			for _, n := range l {
				if n < i && colors[n] == c {
					continue next
				}
			}
			colors[i] = c
			break next
		}
	}
	return colors
}

// Matched tells whether partners are those of a matching to which no edge can be added.
func Matched(g api.Graph, l []int64) bool {
	w := weave(g)
	if len(l) != len(w.ids) {
		return false
	}
	free := func(i int) bool { return l[i] == w.ids[i] }
	for i, id := range l {
		if free(i) {
			if slices.ContainsFunc(w.near[i], free) {
				return false
			}
			continue
		}
		at, there := w.place(id)
		if !there || !w.neighbours(i, at) || l[at] != w.ids[i] {
			return false
		}
	}
	return true
}
