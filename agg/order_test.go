package agg_test

import (
	"math/rand"
	"slices"
	"testing"

	"cohort/agg"
	"cohort/api"
)

// given is a value that is given to a kind.
type given struct {
	kind int
	v    int64
}

// inTurn is an aggregate to which values are given one behind the other.
func inTurn(t *testing.T, x api.Aggregate, l []given) api.Aggregate {
	t.Helper()
	for _, g := range l {
		next, e := agg.Add(x, g.kind, g.v)
		if e != api.OK {
			t.Fatalf("%d to kind %d of %v: error %d", g.v, g.kind, x, e)
		}
		x = next
	}
	return x
}

func merge(t *testing.T, a, b api.Aggregate) api.Aggregate {
	t.Helper()
	x, e := agg.Merge(a, b)
	if e != api.OK {
		t.Fatalf("%v and %v: error %d", a, b, e)
	}
	return x
}

// inHalves is the aggregate of values, by halves of halves that are merged.
func inHalves(t *testing.T, l []given) api.Aggregate {
	t.Helper()
	if len(l) < 2 {
		return inTurn(t, api.Aggregate{}, l)
	}
	return merge(t, inHalves(t, l[:len(l)/2]), inHalves(t, l[len(l)/2:]))
}

// inParts is the aggregate of values that go to parts in turn, which are merged from the first on, or from the last.
func inParts(t *testing.T, l []given, parts int, back bool) api.Aggregate {
	t.Helper()
	of := make([][]given, parts)
	for i, g := range l {
		of[i%parts] = append(of[i%parts], g)
	}
	whole := api.Aggregate{}
	for _, some := range of {
		x := inTurn(t, api.Aggregate{}, some)
		if back {
			whole = merge(t, x, whole)
		} else {
			whole = merge(t, whole, x)
		}
	}
	return whole
}

// want is the aggregate of values, by the words for each kind.
func want(l []given) api.Aggregate {
	x := api.Aggregate{}
	for kind := range api.Aggs {
		of := []int64{}
		for _, g := range l {
			if g.kind == kind {
				of = append(of, g.v)
			}
		}
		if len(of) == 0 {
			continue
		}
		sum, and, or := int64(0), int64(-1), int64(0)
		for _, v := range of {
			sum, and, or = sum+v, and&v, or|v
		}
		x.Has[kind], x.V[kind] = true, [api.Aggs]int64{sum, slices.Min(of), slices.Max(of), and, or}[kind]
	}
	return x
}

// all tells whether values are the same aggregate however they are put together.
func all(t *testing.T, l []given) {
	t.Helper()
	whole := want(l)
	check(t, "in turn", inTurn(t, api.Aggregate{}, l), api.OK, whole, api.OK)
	check(t, "by halves", inHalves(t, l), api.OK, whole, api.OK)
	for parts := 1; parts <= 4; parts++ {
		check(t, "by parts", inParts(t, l, parts, false), api.OK, whole, api.OK)
		check(t, "by parts, from the last on", inParts(t, l, parts, true), api.OK, whole, api.OK)
	}
	begun := inTurn(t, merge(t, api.Aggregate{}, inTurn(t, api.Aggregate{}, l[:len(l)/3])), l[len(l)/3:])
	check(t, "merged, then in turn", begun, api.OK, whole, api.OK)
}

// orders calls f with a list in all its orders.
func orders(l []given, from int, f func(l []given)) {
	if from == len(l) {
		f(l)
		return
	}
	for i := from; i < len(l); i++ {
		l[from], l[i] = l[i], l[from]
		orders(l, from+1, f)
		l[from], l[i] = l[i], l[from]
	}
}

// Promise 4.2: a few values of one kind, in all orders.
func TestAllOrders(t *testing.T) {
	for kind := range api.Aggs {
		l := []given{{kind, 12}, {kind, -3}, {kind, 10}, {kind, 1 << 40}, {kind, -1 << 50}}
		orders(l, 0, func(l []given) { all(t, l) })
	}
}

// Promise 4.2: values of all kinds, and of some, in several orders.
func TestSeveralOrders(t *testing.T) {
	chance := rand.New(rand.NewSource(4))
	all(t, nil)
	for many := 1; many <= 40; many++ {
		l := []given{}
		kinds := 1 + chance.Intn(api.Aggs)
		for range many {
			// 40 values of 57 bits have a sum that 64 bits hold.
			l = append(l, given{chance.Intn(kinds), chance.Int63()>>6 - 1<<56})
		}
		for range 5 {
			all(t, l)
			chance.Shuffle(len(l), func(i, j int) { l[i], l[j] = l[j], l[i] })
		}
		slices.Reverse(l)
		all(t, l)
	}
}

// Promise 4.2: both ends, where the sums between have room in each order that is tried.
func TestOrdersAtEnds(t *testing.T) {
	for kind := range api.Aggs {
		for _, pair := range [][2]int64{{greatest, least}, {greatest, 0}, {least, 0}, {greatest - 1, 1}, {least + 1, -1}} {
			all(t, []given{{kind, pair[0]}, {kind, pair[1]}})
			all(t, []given{{kind, pair[1]}, {kind, pair[0]}})
		}
	}
}
