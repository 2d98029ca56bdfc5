package more_test

import (
	"testing"

	"cohort/api"
)

// core is a step of kcore.
func core(step int, v api.Vertex, l []api.Message, k int64) api.Input {
	return api.Input{Step: step, Vertex: v, Messages: l, Before: had(0), Many: 6, Params: []int64{k}}
}

// keeps is a vertex that has a value, and halts.
func keeps(value int64) api.Output {
	return api.Output{Value: value, Halt: true}
}

// falls is a vertex that is not in the core, and tells it to some ends.
func falls(ends ...int64) api.Output {
	return api.Output{Value: -1, Halt: true, Sent: tells(1, ends...)}
}

// Promise 8.1: kcore, superstep 0: edges back, the value 0.
func TestKcoreFirst(t *testing.T) {
	for _, k := range []int64{0, 1, 4, 256} {
		begins(t, "kcore", 0, k)
	}
}

// Promise 8.1: kcore, superstep 1: how many others it has, less what messages say, whatever value it has; below k it falls.
func TestKcoreSecond(t *testing.T) {
	for _, value := range []int64{0, 1, 50, -1, -50, greatest, least} {
		for k := range int64(8) {
			for _, c := range []struct {
				l    []api.Message
				left int64
			}{{nil, 4}, {[]api.Message{}, 4}, {says(1), 3}, {says(3), 1}, {says(1, 1, 1), 1}, {says(4), 0}, {says(-2), 6}, {says(0), 4}, {says(5), -1}} {
				want := keeps(c.left)
				if c.left < k {
					want = falls(-1, 2, 7, 9)
				}
				does(t, "four others and itself", "kcore", core(1, busy(value), c.l, k), want)
			}
		}
		does(t, "no others, k is 0", "kcore", core(1, vertex(5, value), nil, 0), keeps(0))
		does(t, "no others, k is 1", "kcore", core(1, vertex(5, value), nil, 1), falls())
		does(t, "itself alone, k is 0", "kcore", core(1, vertex(5, value, 5), nil, 0), keeps(0))
		does(t, "itself alone, k is 1", "kcore", core(1, vertex(5, value, 5), nil, 1), falls())
		does(t, "no others, and less than none", "kcore", core(1, vertex(5, value), says(1), 0), falls())
	}
}

// Promise 8.1: kcore, later: what it had, less what messages say; below k it falls.
func TestKcoreLater(t *testing.T) {
	for _, step := range late(2) {
		for _, c := range []struct {
			value, k int64
			l        []api.Message
			left     int64
		}{
			{4, 4, nil, 4},
			{4, 5, nil, 4},
			{4, 3, says(1), 3},
			{4, 4, says(1), 3},
			{4, 2, says(2), 2},
			{4, 3, says(2), 2},
			{4, 2, says(1, 1), 2},
			{4, 3, says(1, 1), 2},
			{4, 0, says(4), 0},
			{4, 0, says(5), -1},
			{4, 1, says(4), 0},
			{0, 0, nil, 0},
			{0, 0, says(1), -1},
			{0, 1, nil, 0},
			{50, 40, says(1, 2, 3), 44},
			{256, 256, nil, 256},
			{256, 256, says(1), 255},
			{4, 4, says(-3), 7},
			{4, 0, says(greatest), 4 - greatest},
			{greatest, 256, says(greatest - 256), 256},
			{greatest - 1, 1, says(-1), greatest},
			{0, 1, says(least + 1), greatest},
		} {
			for _, l := range orders(c.l) {
				want, single := keeps(c.left), keeps(c.left)
				if c.left < c.k {
					want, single = falls(-1, 2, 7, 9), falls()
				}
				does(t, "later", "kcore", core(step, busy(c.value), l, c.k), want)
				does(t, "later, without others", "kcore", core(step, vertex(5, c.value, 5), l, c.k), single)
			}
		}
	}
}

// Promise 8.1: kcore, later: who is below 0 already stays as it is, and tells nobody again.
func TestKcoreFallen(t *testing.T) {
	for _, step := range late(2) {
		for _, value := range []int64{-1, -2, -50, least} {
			for _, l := range [][]api.Message{nil, {}, says(1), says(1, 1), says(-9), says(greatest, greatest), says(least)} {
				for _, k := range []int64{0, 1, 256} {
					does(t, "fallen", "kcore", core(step, busy(value), l, k), keeps(value))
				}
			}
		}
	}
}

// Promise 8.1: kcore where a number has no room: the error, and all else is zero.
func TestKcoreNoRoom(t *testing.T) {
	for _, l := range [][]api.Message{says(least), says(-greatest, -1), says(greatest, 1), says(least, -1), says(greatest, greatest)} {
		for _, step := range late(1) {
			does(t, "no room", "kcore", core(step, busy(1), l, 3), api.Output{Err: api.ErrOverflow})
		}
	}
	does(t, "no room above", "kcore", core(2, busy(greatest), says(-1), 3), api.Output{Err: api.ErrOverflow})
}
