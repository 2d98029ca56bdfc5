package agg_test

import (
	"math"
	"testing"

	"cohort/agg"
	"cohort/api"
)

const (
	least    = math.MinInt64
	greatest = math.MaxInt64
)

// samples has numbers of each sign, of bits that overlap and that do not, and both ends.
func samples() []int64 {
	return []int64{0, 1, -1, 2, 3, 5, -5, 6, 9, 12, 255, -256, 1 << 32, -1 << 32, 0x0f0f0f0f, 1<<62 + 1,
		greatest - 1, greatest, least, least + 1}
}

// noKinds has numbers below the first kind and behind the last.
func noKinds() []int {
	return []int{-1, -2, -api.Aggs, api.Aggs, api.Aggs + 1, 64, 256, 1 << 32, math.MaxInt, math.MinInt}
}

// with is an aggregate that has one value.
func with(kind int, v int64) api.Aggregate {
	x := api.Aggregate{}
	x.Has[kind], x.V[kind] = true, v
	return x
}

// full is an aggregate that has a value of each kind.
func full(sum, low, high, and, or int64) api.Aggregate {
	return api.Aggregate{Has: [api.Aggs]bool{true, true, true, true, true}, V: [api.Aggs]int64{sum, low, high, and, or}}
}

// several has aggregates with values of no kind, of one, of all but one, and of all.
func several() []api.Aggregate {
	l := []api.Aggregate{{}, full(17, 3, 9, 1, 15), full(-1, least, greatest, 0, -1), full(0, 0, 0, 0, 0)}
	for kind := range api.Aggs {
		one, rest := with(kind, int64(7+kind)), full(4, -5, 6, 7, -8)
		rest.Has[kind], rest.V[kind] = false, 0
		l = append(l, one, with(kind, 0), with(kind, -1), rest)
	}
	return l
}

func check(t *testing.T, what string, got api.Aggregate, gotErr api.Errno, want api.Aggregate, wantErr api.Errno) {
	t.Helper()
	if got != want || gotErr != wantErr {
		t.Errorf("%s is %v with error %d, not %v with error %d", what, got, gotErr, want, wantErr)
	}
}

// Promise 4.1: the first value of a kind is that kind's value, and other kinds have what they had.
func TestAddFirst(t *testing.T) {
	for _, v := range samples() {
		for kind := range api.Aggs {
			got, e := agg.Add(api.Aggregate{}, kind, v)
			check(t, "the first value", got, e, with(kind, v), api.OK)

			x := full(4, -5, 6, 7, -8)
			want := x
			want.V[kind] = v
			x.Has[kind], x.V[kind] = false, 0
			got, e = agg.Add(x, kind, v)
			check(t, "the first value beside others", got, e, want, api.OK)
		}
	}
}

// Promise 4.1: what stands at a kind without a value has no part in what comes of one.
func TestAddFirstIsAlone(t *testing.T) {
	for kind := range api.Aggs {
		x := api.Aggregate{}
		x.V[kind] = 100
		for _, v := range []int64{7, -7, greatest, least} {
			got, e := agg.Add(x, kind, v)
			check(t, "the first value", got, e, with(kind, v), api.OK)
		}
	}
}

// Promise 4.1: a later value and the one that is there are one.
func TestAddLater(t *testing.T) {
	for _, c := range []struct {
		kind        int
		has, v, now int64
	}{
		{api.AggSum, 3, 5, 8},
		{api.AggSum, 3, -5, -2},
		{api.AggSum, -3, -5, -8},
		{api.AggSum, 3, 0, 3},
		{api.AggSum, 0, 0, 0},
		{api.AggSum, greatest - 1, 1, greatest},
		{api.AggSum, 1, greatest - 1, greatest},
		{api.AggSum, least + 1, -1, least},
		{api.AggSum, -1, least + 1, least},
		{api.AggSum, least, greatest, -1},
		{api.AggSum, greatest, least, -1},
		{api.AggMin, 3, 5, 3},
		{api.AggMin, 5, 3, 3},
		{api.AggMin, -3, 5, -3},
		{api.AggMin, 5, 0, 0},
		{api.AggMin, 0, 5, 0},
		{api.AggMin, least, greatest, least},
		{api.AggMin, greatest, least, least},
		{api.AggMin, greatest, greatest - 1, greatest - 1},
		{api.AggMax, 3, 5, 5},
		{api.AggMax, 5, 3, 5},
		{api.AggMax, -3, -5, -3},
		{api.AggMax, -5, 0, 0},
		{api.AggMax, 0, -5, 0},
		{api.AggMax, least, greatest, greatest},
		{api.AggMax, greatest, least, greatest},
		{api.AggMax, least, least + 1, least + 1},
		{api.AggAnd, 12, 10, 8},
		{api.AggAnd, 12, 3, 0},
		{api.AggAnd, 12, 0, 0},
		{api.AggAnd, 12, -1, 12},
		{api.AggAnd, -1, -8, -8},
		{api.AggAnd, greatest, least, 0},
		{api.AggAnd, least, -1, least},
		{api.AggOr, 12, 10, 14},
		{api.AggOr, 12, 3, 15},
		{api.AggOr, 12, 0, 12},
		{api.AggOr, 12, 12, 12},
		{api.AggOr, 12, -1, -1},
		{api.AggOr, -8, 5, -3},
		{api.AggOr, greatest, least, -1},
	} {
		got, e := agg.Add(with(c.kind, c.has), c.kind, c.v)
		check(t, "a later value", got, e, with(c.kind, c.now), api.OK)

		x, want := full(4, -5, 6, 7, -8), full(4, -5, 6, 7, -8)
		x.V[c.kind], want.V[c.kind] = c.has, c.now
		got, e = agg.Add(x, c.kind, c.v)
		check(t, "a later value beside others", got, e, want, api.OK)
	}
}

// Promise 4.1: the document's example, and three values to each kind.
func TestAddSeveral(t *testing.T) {
	x := api.Aggregate{}
	for _, v := range []int64{3, 5} {
		x, _ = agg.Add(x, api.AggMin, v)
	}
	check(t, "3 and 5 to AggMin", x, api.OK, with(api.AggMin, 3), api.OK)
	x = api.Aggregate{}
	for _, v := range []int64{5, 3, 9} {
		for kind := range api.Aggs {
			next, e := agg.Add(x, kind, v)
			if e != api.OK {
				t.Fatalf("%d to kind %d: error %d", v, kind, e)
			}
			x = next
		}
	}
	check(t, "5, 3 and 9 to each", x, api.OK, full(17, 3, 9, 1, 15), api.OK)
}

// Promise 4.1: there is no kind below 0, and none behind the last.
func TestAddNoKind(t *testing.T) {
	for _, x := range several() {
		for _, kind := range noKinds() {
			for _, v := range []int64{0, 1, greatest, least} {
				got, e := agg.Add(x, kind, v)
				check(t, "a value of no kind", got, e, x, api.ErrArg)
			}
		}
	}
}

// noRoom has pairs whose sum 64 bits can't hold.
func noRoom() [][2]int64 {
	return [][2]int64{{greatest, 1}, {1, greatest}, {greatest, greatest}, {1 << 62, 1 << 62}, {greatest - 5, 6},
		{least, -1}, {-1, least}, {least, least}, {-1<<62 - 1, -1 << 62}, {least + 5, -6}}
}

// Promise 4.1: a sum that has no room leaves all as it was; other kinds have room for all.
func TestAddNoRoom(t *testing.T) {
	for _, pair := range noRoom() {
		for _, x := range []api.Aggregate{with(api.AggSum, pair[0]), full(pair[0], pair[0], pair[0], pair[0], pair[0])} {
			got, e := agg.Add(x, api.AggSum, pair[1])
			check(t, "a sum that has no room", got, e, x, api.ErrOverflow)
			for _, kind := range []int{api.AggMin, api.AggMax, api.AggAnd, api.AggOr} {
				if _, e := agg.Add(x, kind, pair[1]); e != api.OK {
					t.Errorf("%d and %d to kind %d: error %d", pair[0], pair[1], kind, e)
				}
			}
		}
	}
}

// Promise 4.1.
func TestMerge(t *testing.T) {
	for _, c := range []struct{ a, b, want api.Aggregate }{
		{api.Aggregate{}, api.Aggregate{}, api.Aggregate{}},
		{full(17, 3, 9, 1, 15), full(-20, -3, 4, 7, 16), full(-3, -3, 9, 1, 31)},
		{full(1, 2, 3, 12, 12), full(10, 20, 30, 10, 10), full(11, 2, 30, 8, 14)},
		{full(10, 20, 30, 10, 10), full(1, 2, 3, 12, 12), full(11, 2, 30, 8, 14)},
		{full(0, 0, 0, 0, 0), full(0, 0, 0, 0, 0), full(0, 0, 0, 0, 0)},
		{full(greatest, greatest, greatest, greatest, greatest), full(least, least, least, least, least), full(-1, least, greatest, 0, -1)},
		{with(api.AggSum, greatest-1), with(api.AggSum, 1), with(api.AggSum, greatest)},
		{with(api.AggSum, -1), with(api.AggSum, least+1), with(api.AggSum, least)},
		{with(api.AggMin, 5), with(api.AggMin, 3), with(api.AggMin, 3)},
		{with(api.AggMax, 5), with(api.AggMax, 3), with(api.AggMax, 5)},
		{with(api.AggAnd, 6), with(api.AggAnd, 3), with(api.AggAnd, 2)},
		{with(api.AggOr, 6), with(api.AggOr, 3), with(api.AggOr, 7)},
	} {
		got, e := agg.Merge(c.a, c.b)
		check(t, "both as one", got, e, c.want, api.OK)
	}
}

// Promise 4.1: with an aggregate of none, on either side, the other one is as it is.
func TestMergeNone(t *testing.T) {
	for _, x := range several() {
		got, e := agg.Merge(x, api.Aggregate{})
		check(t, "one and none", got, e, x, api.OK)
		got, e = agg.Merge(api.Aggregate{}, x)
		check(t, "none and one", got, e, x, api.OK)
	}
}

// Promise 4.1: kinds that only one of them has are as that one has them.
func TestMergeOthers(t *testing.T) {
	for kind := range api.Aggs {
		for other := range api.Aggs {
			if kind == other {
				continue
			}
			want := with(kind, 70)
			want.Has[other], want.V[other] = true, -80
			got, e := agg.Merge(with(kind, 70), with(other, -80))
			check(t, "two of other kinds", got, e, want, api.OK)
		}
		whole := full(4, -5, 6, 7, -8)
		rest := whole
		rest.Has[kind], rest.V[kind] = false, 0
		got, e := agg.Merge(rest, with(kind, whole.V[kind]))
		check(t, "all but one and that one", got, e, whole, api.OK)
		got, e = agg.Merge(with(kind, whole.V[kind]), rest)
		check(t, "one and all but that one", got, e, whole, api.OK)
	}
}

// Promise 4.1: what stands in the second one at a kind without a value is not given to the first.
func TestMergeOnlyValues(t *testing.T) {
	stray := api.Aggregate{V: [api.Aggs]int64{greatest, least, greatest, 0, -1}}
	for _, x := range several() {
		got, e := agg.Merge(x, stray)
		check(t, "one and none", got, e, x, api.OK)
	}
}

// Promise 4.1: where the sum has no room, the first one is as it was, in all kinds.
func TestMergeNoRoom(t *testing.T) {
	for _, pair := range noRoom() {
		for _, a := range []api.Aggregate{with(api.AggSum, pair[0]), full(pair[0], 3, 9, 1, 15)} {
			for _, b := range []api.Aggregate{with(api.AggSum, pair[1]), full(pair[1], -1, 100, 6, -1)} {
				got, e := agg.Merge(a, b)
				check(t, "a sum that has no room", got, e, a, api.ErrOverflow)
			}
		}
	}
}

// Promise 4.1.
func TestGet(t *testing.T) {
	for _, v := range samples() {
		for kind := range api.Aggs {
			x := with(kind, v)
			for asked := range api.Aggs {
				want, is := int64(0), asked == kind
				if is {
					want = v
				}
				if got, ok := agg.Get(x, asked); got != want || ok != is {
					t.Errorf("kind %d of %v is %d, %v", asked, x, got, ok)
				}
			}
		}
	}
}

// Promise 4.1: beside a no the value is 0, also where something stands at that place, and of no kind.
func TestGetNone(t *testing.T) {
	stray := api.Aggregate{V: [api.Aggs]int64{1, 2, 3, 4, 5}}
	for kind := range api.Aggs {
		for _, x := range []api.Aggregate{{}, stray} {
			if got, ok := agg.Get(x, kind); got != 0 || ok {
				t.Errorf("kind %d of none is %d, %v", kind, got, ok)
			}
		}
	}
	for _, kind := range noKinds() {
		for _, x := range several() {
			if got, ok := agg.Get(x, kind); got != 0 || ok {
				t.Errorf("kind %d, which is none, is %d, %v", kind, got, ok)
			}
		}
	}
}
