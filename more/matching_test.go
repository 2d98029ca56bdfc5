package more_test

import (
	"testing"

	"cohort/api"
)

// match is a step of matching.
func match(step int, v api.Vertex, l []api.Message) api.Input {
	return api.Input{Step: step, Vertex: v, Messages: l, Before: had(0), Many: 6}
}

// partings is requests of vertex 5 that its edges to some ends be removed.
func partings(ends ...int64) []api.Mutation {
	var l []api.Mutation
	for _, to := range ends {
		l = append(l, api.Mutation{Kind: api.MutRemoveEdge, ID: 5, To: to})
	}
	return l
}

// many is messages of several kinds, none of them from -1.
func many() [][]api.Message {
	return [][]api.Message{nil, {}, from(2), from(5), from(2, 7, 9), says(-1), says(-1, 5), from(0, least, greatest)}
}

// Promise 8.1: matching, superstep 0: its number, edges back.
func TestMatchingFirst(t *testing.T) {
	begins(t, "matching", 5)
}

// Promise 8.1: matching, later: who has another number than its own, or no others, halts, and keeps its value.
func TestMatchingEnded(t *testing.T) {
	for _, step := range late(1) {
		for _, l := range append(many(), from(-1), from(-1, 2)) {
			for _, value := range []int64{0, 2, -1, 9, -5, greatest, least} {
				does(t, "another number", "matching", match(step, busy(value), l), keeps(value))
				does(t, "another number, no others", "matching", match(step, vertex(5, value), l), keeps(value))
			}
			does(t, "no edges", "matching", match(step, vertex(5, 5), l), keeps(5))
			does(t, "an edge to itself alone", "matching", match(step, vertex(5, 5, 5), l), keeps(5))
		}
	}
}

// Promise 8.1: matching, the first phase: its number to the first of its others, whatever messages there are.
func TestMatchingCourts(t *testing.T) {
	for _, step := range []int{1, 4, 7, 31, 997, 1000} {
		for _, l := range append(many(), from(-1)) {
			does(t, "several", "matching", match(step, busy(5), l), api.Output{Value: 5, Sent: tells(5, -1)})
			does(t, "itself first", "matching", match(step, vertex(5, 5, 5, 7, 9), l), api.Output{Value: 5, Sent: tells(5, 7)})
			does(t, "one", "matching", match(step, vertex(5, 5, 9), l), api.Output{Value: 5, Sent: tells(5, 9)})
		}
	}
}

// Promise 8.1: matching, the second phase: a message from the first of its others pairs them, others do not.
func TestMatchingPairs(t *testing.T) {
	for _, step := range []int{2, 5, 8, 32, 998} {
		paired := api.Output{Value: -1, Halt: true, Sent: tells(5, -1, 2, 7, 9)}
		for _, l := range [][]api.Message{from(-1), from(-1, 2), from(-1, 2, 7, 9), from(2, -1), from(9, 7, -1), from(-1, -1)} {
			does(t, "from the first", "matching", match(step, busy(5), l), paired)
		}
		for _, l := range many() {
			does(t, "not from the first", "matching", match(step, busy(5), l), api.Output{Value: 5})
		}
		does(t, "itself first", "matching", match(step, vertex(5, 5, 5, 7, 9), from(7)), api.Output{Value: 7, Halt: true, Sent: tells(5, 7, 9)})
		does(t, "from itself", "matching", match(step, vertex(5, 5, 5, 7, 9), from(5, 9)), api.Output{Value: 5})
		does(t, "one", "matching", match(step, vertex(5, 5, greatest), from(greatest)), api.Output{Value: greatest, Halt: true, Sent: tells(5, greatest)})
	}
}

// Promise 8.1: matching, the third phase: its edges to those that sent messages are to go.
func TestMatchingParts(t *testing.T) {
	for _, step := range []int{3, 6, 9, 33, 999} {
		for _, ends := range [][]int64{nil, {-1}, {2}, {9}, {-1, 2}, {2, 7, 9}, {-1, 2, 7, 9}} {
			does(t, "parts", "matching", match(step, busy(5), from(ends...)), api.Output{Value: 5, Mutations: partings(ends...)})
		}
		does(t, "one", "matching", match(step, vertex(5, 5, least), from(least)), api.Output{Value: 5, Mutations: partings(least)})
	}
}
