package more_test

import (
	"testing"

	"cohort/api"
)

// label tells whether labels has that value in a superstep, tells it ahead of superstep number turns, and halts from it on.
func label(t *testing.T, what string, step int, v api.Vertex, l []api.Message, want int64) {
	t.Helper()
	for _, before := range []api.Aggregate{{}, had(0)} {
		for turns := range int64(7) {
			in := api.Input{Step: step, Vertex: v, Messages: l, Before: before, Many: 6, Params: []int64{turns}}
			out := api.Output{Value: want, Halt: true}
			if int64(step) < turns {
				var ends []int64
				for _, edge := range v.Edges {
					ends = append(ends, edge.To)
				}
				out = api.Output{Value: want, Sent: tells(want, ends...)}
			}
			does(t, what, "labels", in, out)
		}
	}
}

// Promise 8.1: labels, superstep 0: its number, whatever value it had and whatever messages there are.
func TestLabelsFirst(t *testing.T) {
	for _, value := range []int64{0, 5, 7, -7, greatest, least} {
		for _, l := range [][]api.Message{nil, {}, says(3), says(9, 9)} {
			label(t, "with edges", 0, busy(value), l, 5)
			label(t, "without edges", 0, vertex(5, value), l, 5)
		}
	}
}

// Promise 8.1: labels, later: what most messages say, in whichever order they are.
func TestLabelsMost(t *testing.T) {
	for _, step := range late(1) {
		for _, c := range []struct {
			l    []api.Message
			want int64
		}{
			{says(3), 3},
			{says(-3), -3},
			{says(least), least},
			{says(greatest), greatest},
			{says(9, 9, 1), 9},
			{says(1, 9, 9), 9},
			{says(9, 1, 9, 2, 3), 9},
			{says(1, 1, 2, 2, 2, 3, 3), 2},
			{says(3, 3, 3, 2, 2, 1), 3},
			{says(-1, -1, 0, greatest, greatest, greatest, least, least), greatest},
		} {
			for _, l := range orders(c.l) {
				label(t, "most", step, busy(77), l, c.want)
				label(t, "most, without edges", step, vertex(5, 77), l, c.want)
			}
		}
	}
}

// Promise 8.1: labels, later: the least of several that are said as often, though its own may be less, or among them.
func TestLabelsSeveral(t *testing.T) {
	for _, step := range late(1) {
		for _, c := range []struct {
			l    []api.Message
			want int64
		}{
			{says(9, 5, 9, 5), 5},
			{says(4, 3, 2), 2},
			{says(2, 3), 2},
			{says(1, 7, 8, 7, 8, 1, 2), 1},
			{says(0, 7, 8, 7, 8), 7},
			{says(-2, -3), -3},
			{says(greatest, least), least},
			{says(12, 11, 10, 9, 8, 7, 6, 5, 4, 3, 2, 1), 1},
		} {
			for _, l := range orders(c.l) {
				for _, value := range []int64{0, 7, 9, -50, greatest, least} {
					label(t, "several", step, busy(value), l, c.want)
				}
			}
		}
	}
}

// Promise 8.1: labels, later, without messages: the value that it has, which need not be its number.
func TestLabelsSilence(t *testing.T) {
	for _, step := range late(1) {
		for _, value := range []int64{0, 5, 7, -7, greatest, least} {
			for _, l := range [][]api.Message{nil, {}} {
				label(t, "silence", step, busy(value), l, value)
				label(t, "silence, without edges", step, vertex(5, value), l, value)
			}
		}
	}
}

// Promise 8.1: labels with as many turns as there may be.
func TestLabelsMostTurns(t *testing.T) {
	in := api.Input{Step: 99, Vertex: busy(8), Messages: says(4), Many: 6, Params: []int64{100}}
	does(t, "ahead of the last superstep", "labels", in, api.Output{Value: 4, Sent: tells(4, -1, 2, 5, 7, 9)})
	for _, step := range []int{100, 101} {
		in.Step = step
		does(t, "from the last superstep on", "labels", in, api.Output{Value: 4, Halt: true})
	}
}
