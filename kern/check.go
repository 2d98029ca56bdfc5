package kern

import (
	"cohort/api"
	"cohort/graph"
)

// maxTurns is how many turns there may be.
const maxTurns = 100

// Check tells whether a program's parameters may be.
func Check(program string, g api.Graph, params []int64) api.Errno {
	switch program {
	case "bfs":
		return Source(g, params)
	case "sssp":
		if anyBelowZero(g) {
			return api.ErrParams
		}
		return Source(g, params)
	case "pagerank":
		return Turns(params)
	case "cc", "degree":
		return None(params)
	}
	return api.ErrProgram
}

// Source tells whether the only parameter is a vertex of a graph.
func Source(g api.Graph, params []int64) api.Errno {
	if len(params) != 1 {
		return api.ErrParams
	}
	if _, there := graph.Find(g, params[0]); !there {
		return api.ErrParams
	}
	return api.OK
}

// Turns tells whether the only parameter is a number of turns.
func Turns(params []int64) api.Errno {
	if len(params) != 1 || params[0] < 0 || params[0] > maxTurns {
		return api.ErrParams
	}
	return api.OK
}

// None tells whether there are no parameters.
func None(params []int64) api.Errno {
	if len(params) != 0 {
		return api.ErrParams
	}
	return api.OK
}

// anyBelowZero tells whether a graph has a weight below 0.
func anyBelowZero(g api.Graph) bool {
	for _, edge := range graph.All(g) {
		if edge.Weight < 0 {
			return true
		}
	}
	return false
}
