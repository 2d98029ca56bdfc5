package more_test

import (
	"testing"

	"cohort/api"
)

// color is a step of colors.
func color(step int, v api.Vertex, l []api.Message, before api.Aggregate) api.Input {
	return api.Input{Step: step, Vertex: v, Messages: l, Before: before, Many: 6}
}

// paints is a vertex that has a colour, tells it to some ends, and says whether it changed.
func paints(v, changed int64, ends ...int64) api.Output {
	return api.Output{Value: v, Sent: tells(v, ends...), Agg: gave(api.AggOr, changed)}
}

// said is messages, and the least number from 0 on that none of them says.
func said() []struct {
	l    []api.Message
	want int64
} {
	return []struct {
		l    []api.Message
		want int64
	}{
		{nil, 0},
		{[]api.Message{}, 0},
		{says(1), 0},
		{says(-1), 0},
		{says(greatest, least), 0},
		{says(0), 1},
		{says(0, 0, 0), 1},
		{says(1, 2, 3), 0},
		{says(0, 2), 1},
		{says(0, 1), 2},
		{says(0, 1, 1, 0, 3), 2},
		{says(4, 3, 2, 1, 0), 5},
		{says(0, 1, 2, 4, 5), 3},
		{says(-1, 0, -2, 1), 2},
		{says(7, 6, 5, 0, 1, 3, 2, 2), 4},
	}
}

// Promise 8.1: colors, superstep 0: edges back, the value 0.
func TestColorsFirst(t *testing.T) {
	begins(t, "colors", 0)
}

// Promise 8.1: colors, superstep 1: 1 is given, whether the value is another one or not, and whatever the aggregate ahead has.
func TestColorsSecond(t *testing.T) {
	for _, before := range []api.Aggregate{{}, had(0), had(1), gave(api.AggOr, 0)} {
		for _, c := range said() {
			for _, l := range orders(c.l) {
				for _, value := range []int64{0, 1, 2, -1, greatest, least} {
					does(t, "superstep 1", "colors", color(1, busy(value), l, before), paints(c.want, 1, 7, 9))
				}
			}
		}
		does(t, "superstep 1, without edges", "colors", color(1, vertex(5, 0), nil, before), paints(0, 1))
	}
}

// Promise 8.1: colors, from superstep 2 on: the least colour that no message says, in whichever order they are, and whether it is another one.
func TestColorsLater(t *testing.T) {
	for _, step := range late(2) {
		for _, before := range []api.Aggregate{{}, had(1), had(-1), gave(api.AggOr, 1), gave(api.AggAnd, 0), gave(api.AggSum, 0)} {
			for _, c := range said() {
				for _, l := range orders(c.l) {
					does(t, "as before", "colors", color(step, busy(c.want), l, before), paints(c.want, 0, 7, 9))
					for _, value := range []int64{c.want + 1, c.want - 1, greatest, least} {
						does(t, "another one", "colors", color(step, busy(value), l, before), paints(c.want, 1, 7, 9))
					}
				}
			}
		}
	}
}

// Promise 8.1: colors tells those of its others that are above it, and no others.
func TestColorsEnds(t *testing.T) {
	for _, step := range late(1) {
		for _, c := range []struct {
			v    api.Vertex
			ends []int64
		}{
			{vertex(5, 9), nil},
			{vertex(5, 9, 5), nil},
			{vertex(5, 9, 1, 2, 4), nil},
			{vertex(5, 9, 1, 4, 5), nil},
			{vertex(5, 9, 6), []int64{6}},
			{vertex(5, 9, 5, 6, 8), []int64{6, 8}},
			{vertex(5, 9, least, -1, 4, 5, 6, greatest), []int64{6, greatest}},
		} {
			does(t, "ends", "colors", color(step, c.v, says(0), had(1)), paints(1, 1, c.ends...))
		}
	}
}

// Promise 8.1: colors, from superstep 2 on: where the aggregate ahead has AggOr 0, it halts and does nothing more.
func TestColorsEnded(t *testing.T) {
	for _, step := range late(2) {
		for _, before := range []api.Aggregate{had(0), gave(api.AggOr, 0)} {
			for _, c := range said() {
				for _, value := range []int64{c.want, c.want + 1, -1} {
					does(t, "ended", "colors", color(step, busy(value), c.l, before), keeps(c.want))
				}
			}
			does(t, "ended, without edges", "colors", color(step, vertex(5, 0), nil, before), keeps(0))
		}
	}
}
