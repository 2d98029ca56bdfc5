package more_test

import (
	"math"
	"slices"
	"testing"

	"cohort/api"
	"cohort/kern"
	"cohort/more"
)

// Promise 8.1: of kern's programs what kern tells, errors too.
func TestStepBelow(t *testing.T) {
	errors := 0
	for _, name := range below() {
		for _, step := range late(0) {
			for _, params := range [][]int64{nil, {5}, {2}, {100}} {
				for _, l := range [][]api.Message{nil, says(3), says(2, 3), says(greatest, 1), says(greatest)} {
					for _, v := range []api.Vertex{busy(-1), busy(5), busy(greatest), vertex(5, 4), vertex(2, 0, 2, 5)} {
						in := api.Input{Step: step, Vertex: v, Messages: l, Before: had(0), Many: 6, Params: params}
						want := kern.Step(name, in)
						does(t, "as kern", name, in, want)
						if want.Err != api.OK {
							errors++
						}
					}
				}
			}
		}
	}
	if errors == 0 {
		t.Error("no case has an error")
	}
	in := api.Input{Vertex: vertex(5, 9, 2), Params: []int64{5}}
	does(t, "the source", "bfs", in, api.Output{Halt: true, Sent: tells(1, 2)})
}

// Promise 8.1: a program that is none of the ten does nothing but tell so.
func TestStepUnknown(t *testing.T) {
	for _, name := range strangers() {
		for _, step := range []int{0, 1, 2, 3} {
			in := api.Input{Step: step, Vertex: busy(7), Messages: says(3), Before: had(0), Many: 6, Params: []int64{5}}
			does(t, "none of the ten", name, in, api.Output{Err: api.ErrProgram})
			does(t, "none of the ten, of nothing", name, api.Input{Step: step}, api.Output{Err: api.ErrProgram})
		}
	}
}

// Rule R1: a step ends, and does not panic, also where something is not as it must be; with an error all else is zero.
func TestStepAnything(t *testing.T) {
	lists := [][]int64{nil, {}, {-1}, {5}, {101}, {least}, {greatest}, {5, 6}}
	for _, name := range slices.Concat(five(), below(), strangers()) {
		for _, step := range []int{math.MinInt, -3, -2, -1, 0, 1, 2, 3, math.MaxInt} {
			for _, params := range lists {
				for _, l := range [][]api.Message{nil, says(greatest, greatest), says(least, least), says(-1), from(2, 2)} {
					for _, v := range []api.Vertex{{}, busy(least), busy(5), busy(greatest), vertex(5, -1, 9, 9, 1), vertex(5, 5, 9, 5, 9)} {
						in := api.Input{Step: step, Vertex: v, Messages: l, Before: had(0), Many: step, Params: params}
						out := more.Step(name, in)
						if out.Err != api.OK && !sameOutput(out, api.Output{Err: out.Err}) {
							t.Errorf("%s of %v: %+v", name, in, out)
						}
						if again := more.Step(name, in); !sameOutput(again, out) {
							t.Errorf("%s of %v: %+v, then %+v", name, in, out, again)
						}
					}
				}
			}
		}
	}
}

// Rule R2: what was told stays, whatever is done later to what was handed in.
func TestStepOwn(t *testing.T) {
	for _, name := range five() {
		for _, step := range []int{0, 1, 2, 3} {
			in := api.Input{Step: step, Vertex: vertex(5, 5, -1, 2, 7, 9), Messages: from(-1, 2), Many: 6, Params: []int64{9}}
			out := more.Step(name, clone(in))
			other := clone(in)
			same := more.Step(name, other)
			for i := range other.Vertex.Edges {
				other.Vertex.Edges[i] = api.Edge{To: -99, Weight: -99}
			}
			for i := range other.Messages {
				other.Messages[i] = api.Message{From: -99, To: -99, At: -99, V: -99}
			}
			other.Params[0] = -99
			if !sameOutput(out, same) {
				t.Errorf("%s, superstep %d: %+v became %+v", name, step, out, same)
			}
		}
	}
}
