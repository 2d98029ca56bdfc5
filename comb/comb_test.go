package comb_test

import (
	"cmp"
	"math"
	"slices"
	"testing"

	"cohort/api"
	"cohort/comb"
)

const (
	least    = math.MinInt64
	greatest = math.MaxInt64
)

// msg is a message, its parts as their order has them.
func msg(to, from int64, at int, v int64) api.Message {
	return api.Message{To: to, From: from, At: at, V: v}
}

// saying has messages to one vertex that say so much, each from another one, the greatest number first.
func saying(says ...int64) []api.Message {
	l := []api.Message{}
	for i, v := range says {
		l = append(l, msg(7, int64(-i), i+1, v))
	}
	return l
}

// same tells whether two lists are the same; one that is nil and one that is empty are.
func same(t *testing.T, what string, got, want []api.Message) {
	t.Helper()
	if !slices.Equal(got, want) {
		t.Errorf("%s: %v, not %v", what, got, want)
	}
}

// spoil changes all of a list, and what stands behind it.
func spoil(l []api.Message) {
	l = l[:cap(l)]
	for i := range l {
		l[i] = msg(-99, -99, -99, -99)
	}
}

// rising has messages in their order, each two of which differ first in To, From, At or V.
func rising() []api.Message {
	l := []api.Message{}
	for _, to := range []int64{least, -1, 0, 3, greatest} {
		for _, from := range []int64{least, -2, 0, 2, greatest} {
			for _, at := range []int{math.MinInt, -1, 0, 5, math.MaxInt} {
				for _, v := range []int64{least, -3, 0, 4, greatest} {
					l = append(l, msg(to, from, at, v))
				}
			}
		}
	}
	return l
}

// Promise 5.1: by each part, those ahead of it alike, whatever those behind it say.
func TestCompareByPart(t *testing.T) {
	for _, c := range []struct {
		name        string
		first, last api.Message
	}{
		{"To", msg(1, 9, 9, 9), msg(2, 0, 0, 0)},
		{"To below 0", msg(-1, 9, 9, 9), msg(0, 0, 0, 0)},
		{"To at both ends", msg(least, 9, 9, 9), msg(greatest, 0, 0, 0)},
		{"To alone", msg(1, 5, 5, 5), msg(2, 5, 5, 5)},
		{"From", msg(4, 1, 9, 9), msg(4, 2, 0, 0)},
		{"From below 0", msg(4, -1, 9, 9), msg(4, 0, 0, 0)},
		{"From at both ends", msg(4, least, 9, 9), msg(4, greatest, 0, 0)},
		{"From alone", msg(4, 1, 5, 5), msg(4, 2, 5, 5)},
		{"At", msg(4, 5, 1, 9), msg(4, 5, 2, 0)},
		{"At below 0", msg(4, 5, -1, 9), msg(4, 5, 0, 0)},
		{"At at both ends", msg(4, 5, math.MinInt, 9), msg(4, 5, math.MaxInt, 0)},
		{"At alone", msg(4, 5, 1, 5), msg(4, 5, 2, 5)},
		{"V", msg(4, 5, 6, 1), msg(4, 5, 6, 2)},
		{"V below 0", msg(4, 5, 6, -1), msg(4, 5, 6, 0)},
		{"V at both ends", msg(4, 5, 6, least), msg(4, 5, 6, greatest)},
	} {
		if n := comb.Compare(c.first, c.last); n >= 0 {
			t.Errorf("by %s: the first one against the last is %d", c.name, n)
		}
		if n := comb.Compare(c.last, c.first); n <= 0 {
			t.Errorf("by %s: the last one against the first is %d", c.name, n)
		}
		for _, m := range []api.Message{c.first, c.last} {
			if n := comb.Compare(m, m); n != 0 {
				t.Errorf("by %s: %v against itself is %d", c.name, m, n)
			}
		}
	}
}

// Promise 5.1: each message against each.
func TestCompareAll(t *testing.T) {
	l := rising()
	for i, a := range l {
		for j, b := range l {
			if got := cmp.Compare(comb.Compare(a, b), 0); got != cmp.Compare(i, j) {
				t.Fatalf("%v against %v: %d", a, b, got)
			}
		}
	}
}

// otherKinds has numbers that are no combiner.
func otherKinds() []int {
	return []int{-1, -2, -3, 4, 5, 17, 256, 257, 258, 1<<32 + 1, 1<<32 + 2, math.MaxInt, math.MinInt}
}

// Promise 5.2: without a combiner they are as they were, in the order that they have.
func TestCombineNone(t *testing.T) {
	for _, l := range [][]api.Message{nil, {}, saying(5), saying(5, 3, 9, 3), saying(greatest, greatest), saying(least, -1),
		{msg(3, 2, 1, 4), msg(1, 5, 0, -4), msg(3, 2, 1, 4), msg(2, 0, 9, 0)}} {
		got, e := comb.Combine(api.CombNone, l)
		same(t, "without a combiner", got, l)
		if e != api.OK {
			t.Errorf("without a combiner: error %d", e)
		}
	}
}

// Promise 5.2: of no messages comes none, of one that one, by whatever kind.
func TestCombineNoneOrOne(t *testing.T) {
	for _, kind := range append(otherKinds(), api.CombSum, api.CombMin, api.CombMax) {
		for _, l := range [][]api.Message{nil, {}, saying(5), saying(0), saying(-5), saying(greatest), saying(least)} {
			got, e := comb.Combine(kind, l)
			same(t, "at most one", got, l)
			if e != api.OK {
				t.Errorf("kind %d of %v: error %d", kind, l, e)
			}
		}
	}
}

// Promise 5.2: the first message, with what all say.
func TestCombine(t *testing.T) {
	for _, c := range []struct {
		says           []int64
		sum, low, high int64
	}{
		{[]int64{5, 3}, 8, 3, 5},
		{[]int64{3, 5}, 8, 3, 5},
		{[]int64{4, 4, 4}, 12, 4, 4},
		{[]int64{0, 0}, 0, 0, 0},
		{[]int64{5, -3, 9, 1}, 12, -3, 9},
		{[]int64{-5, -3, -9, -1}, -18, -9, -1},
		{[]int64{5, 9, -3}, 11, -3, 9},
		{[]int64{0, 7}, 7, 0, 7},
		{[]int64{-7, 0}, -7, -7, 0},
		{[]int64{1 << 40, 1, -1 << 50}, 1<<40 + 1 - 1<<50, -1 << 50, 1 << 40},
		{[]int64{greatest - 1, 1}, greatest, 1, greatest - 1},
		{[]int64{1, greatest - 1}, greatest, 1, greatest - 1},
		{[]int64{least + 1, -1}, least, least + 1, -1},
		{[]int64{-1, least + 1}, least, least + 1, -1},
		{[]int64{greatest, least}, -1, least, greatest},
		{[]int64{least, greatest}, -1, least, greatest},
		{[]int64{greatest, 0, -1, 1}, greatest, -1, greatest},
		{[]int64{least, 0, 1, -1}, least, least, 1},
		{[]int64{greatest, least, greatest, least}, -2, least, greatest},
	} {
		for kind, v := range map[int]int64{api.CombSum: c.sum, api.CombMin: c.low, api.CombMax: c.high} {
			combined(t, kind, saying(c.says...), v)
		}
		for _, kind := range otherKinds() {
			combined(t, kind, saying(c.says...), c.sum)
		}
	}
}

// combined tells whether messages become the first of them, saying v.
func combined(t *testing.T, kind int, l []api.Message, v int64) {
	t.Helper()
	want := l[0]
	want.V = v
	got, e := comb.Combine(kind, l)
	if len(got) != 1 || got[0] != want || e != api.OK {
		t.Errorf("kind %d of %v: %v with error %d, not %v", kind, l, got, e, want)
	}
}

// Promise 5.2: the first one is that of the list, and messages to several vertices are one, too.
func TestCombineFirstOfList(t *testing.T) {
	l := []api.Message{msg(5, 6, 7, 8), msg(1, 2, 3, 4), msg(9, 0, 0, -1)}
	combined(t, api.CombSum, l, 11)
	combined(t, api.CombMin, l, -1)
	combined(t, api.CombMax, l, 8)
}

// Promise 5.2: a sum without room, at the first, in the midst and at the last, at both ends of 64 bits, even if the whole sum has room.
func TestCombineOverflow(t *testing.T) {
	for _, says := range [][]int64{
		{greatest, 1},
		{1, greatest},
		{least, -1},
		{-1, least},
		{greatest, greatest},
		{least, least},
		{1 << 62, 1 << 62},
		{-1 << 62, -1 << 62, -1},
		{greatest, 1, -1},
		{least, -1, 1},
		{0, greatest, 1, -1, -1},
		{5, greatest - 5, 1, -greatest},
		{1, 2, greatest - 3, 0, 1},
		{-1, -2, least + 3, 0, -1},
		{greatest, 0, 0, 1},
	} {
		l := saying(says...)
		before := slices.Clone(l)
		for _, kind := range append(otherKinds(), api.CombSum) {
			if got, e := comb.Combine(kind, l); len(got) != 0 || e != api.ErrOverflow {
				t.Errorf("kind %d of %v: %v with error %d", kind, says, got, e)
			}
		}
		same(t, "what was handed in", l, before)
		combined(t, api.CombMin, l, slices.Min(says))
		combined(t, api.CombMax, l, slices.Max(says))
	}
}

// Promise 5.2: as a sum goes on, one behind the other, so does its room: another order may have it.
func TestCombineInTurn(t *testing.T) {
	combined(t, api.CombSum, saying(greatest, -1, 1), greatest)
	combined(t, api.CombSum, saying(-1, greatest, 1), greatest)
	combined(t, api.CombSum, saying(least, 1, -1), least)
	combined(t, api.CombSum, saying(greatest, least, greatest), greatest-1)
}

// R2: what comes of it is the caller's own, and what is handed in is not changed.
func TestCombineOwn(t *testing.T) {
	for _, kind := range []int{api.CombNone, api.CombSum, api.CombMin, api.CombMax, -1} {
		for many := range 4 {
			// There is room behind the list, which is the caller's, too.
			l := append(make([]api.Message, 0, many+3), saying(4, 3, 5)[:many]...)
			before, behind := slices.Clone(l), slices.Clone(l[many:cap(l)])
			got, _ := comb.Combine(kind, l)
			want := slices.Clone(got)
			same(t, "what was handed in", l, before)
			same(t, "what stands behind it", l[many:cap(l)], behind)
			spoil(got)
			same(t, "what was handed in, as the answer is changed", l, before)
			got, _ = comb.Combine(kind, l)
			spoil(l)
			same(t, "the answer, as what was handed in is changed", got, want)
		}
	}
}
