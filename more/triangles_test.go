package more_test

import (
	"testing"

	"cohort/api"
)

// Promise 8.1: triangles, superstep 0: edges back, the value 0.
func TestTrianglesFirst(t *testing.T) {
	begins(t, "triangles", 0)
}

// Promise 8.1: triangles, superstep 1: the later of each two others to the earlier one, if that is above its own number.
func TestTrianglesPairs(t *testing.T) {
	for _, c := range []struct {
		what string
		v    api.Vertex
		sent []api.Message
	}{
		{"without edges", vertex(5, 0), nil},
		{"to itself alone", vertex(5, 0, 5), nil},
		{"one above", vertex(5, 0, 6), nil},
		{"one above, and itself", vertex(5, 0, 5, 6), nil},
		{"all below", vertex(5, 0, 1, 2, 3), nil},
		{"below and one above", vertex(5, 0, 1, 2, 5, 6), nil},
		{"two above", vertex(5, 0, 7, 9), sends([2]int64{7, 9})},
		{"below, itself, and two above", busy(0), sends([2]int64{7, 9})},
		{"three above", vertex(5, 0, 6, 7, 9), sends([2]int64{6, 7}, [2]int64{6, 9}, [2]int64{7, 9})},
		{"four above", vertex(5, 0, 2, 5, 6, 7, 8, greatest), sends([2]int64{6, 7}, [2]int64{6, 8}, [2]int64{6, greatest},
			[2]int64{7, 8}, [2]int64{7, greatest}, [2]int64{8, greatest})},
	} {
		for _, value := range []int64{0, 3, -3, least} {
			for _, l := range [][]api.Message{nil, {}, says(7), says(2, 9)} {
				for _, before := range []api.Aggregate{{}, had(0)} {
					c.v.Value = value
					in := api.Input{Step: 1, Vertex: c.v, Messages: l, Before: before, Many: 6}
					does(t, c.what, "triangles", in, api.Output{Halt: true, Sent: c.sent})
				}
			}
		}
	}
	low := api.Vertex{ID: least, Edges: []api.Edge{{To: least}, {To: -1}, {To: greatest}}}
	does(t, "the least number there is", "triangles", api.Input{Step: 1, Vertex: low},
		api.Output{Halt: true, Sent: []api.Message{{From: least, To: -1, V: greatest}}})
}

// Promise 8.1: triangles, later: how many messages say one of its others.
func TestTrianglesLater(t *testing.T) {
	for _, step := range late(2) {
		for _, c := range []struct {
			v    api.Vertex
			l    []api.Message
			want int64
		}{
			{busy(0), nil, 0},
			{busy(0), []api.Message{}, 0},
			{busy(0), says(7), 1},
			{busy(0), says(9, 7), 2},
			{busy(0), says(-1, 2, 7, 9), 4},
			{busy(0), says(9, 9, 9), 3},
			{busy(0), says(8), 0},
			{busy(0), says(5), 0},
			{busy(0), says(5, 5, 8, 0, 1, greatest, least), 0},
			{busy(0), says(5, 9, 8, 7, 6), 2},
			{busy(0), from(7, 9), 0},
			{vertex(5, 0), says(7, 9), 0},
			{vertex(5, 0, 5), says(5, 5), 0},
			{vertex(5, 0, least, greatest), says(least, greatest, 0), 2},
		} {
			for _, value := range []int64{0, 3, -3, greatest, least} {
				for _, l := range orders(c.l) {
					c.v.Value = value
					in := api.Input{Step: step, Vertex: c.v, Messages: l, Before: had(0), Many: 6}
					does(t, "later", "triangles", in, api.Output{Value: c.want, Halt: true, Agg: gave(api.AggSum, c.want)})
				}
			}
		}
	}
}
