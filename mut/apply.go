package mut

import (
	"cmp"
	"slices"

	"cohort/api"
	"cohort/graph"
)

// Apply does requests, in their order: the graph behind them, and how many changed something.
func Apply(g api.Graph, l []api.Mutation) (api.Graph, int) {
	g = graph.Clone(g)
	n := 0
	for _, m := range thatCount(l) {
		if do(&g, m) {
			n++
		}
	}
	return g, n
}

// thatCount is the requests that count, in their order: a list of its own.
func thatCount(l []api.Mutation) []api.Mutation {
	l = slices.Clone(l)
	slices.SortFunc(l, Compare)
	// Of those that ask for the same, the first one is kept.
	return slices.CompactFunc(l, sameThing)
}

// sameThing tells whether two requests are for the same thing, whatever value or weight they give it.
func sameThing(a, b api.Mutation) bool {
	return a.Kind == b.Kind && a.ID == b.ID && a.To == b.To
}

// do does a request on a graph that is this call's own: whether it changed something. A kind that is not known changes nothing.
func do(g *api.Graph, m api.Mutation) bool {
	at, there := graph.Find(*g, m.ID)
	switch m.Kind {
	case api.MutRemoveEdge:
		return there && removeEdge(&g.Vertices[at], m.To)
	case api.MutRemoveVertex:
		// Edges that lead to it belong to other vertices, and stay.
		if there {
			g.Vertices = slices.Delete(g.Vertices, at, at+1)
		}
		return there
	case api.MutAddVertex:
		if !there {
			g.Vertices = slices.Insert(g.Vertices, at, api.Vertex{ID: m.ID, Value: m.V})
		}
		return !there
	case api.MutAddEdge:
		return there && addEdge(&g.Vertices[at], api.Edge{To: m.To, Weight: m.V})
	}
	return false
}

func removeEdge(v *api.Vertex, to int64) bool {
	at, there := findEdge(v.Edges, to)
	if there {
		v.Edges = slices.Delete(v.Edges, at, at+1)
	}
	return there
}

func addEdge(v *api.Vertex, e api.Edge) bool {
	at, there := findEdge(v.Edges, e.To)
	if !there {
		v.Edges = slices.Insert(v.Edges, at, e)
	}
	return !there
}

// findEdge is the place of the edge to an end, or where it would stand.
func findEdge(l []api.Edge, to int64) (int, bool) {
	return slices.BinarySearchFunc(l, to, func(e api.Edge, to int64) int {
		return cmp.Compare(e.To, to)
	})
}
