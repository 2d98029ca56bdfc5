package mut_test

import (
	"cmp"
	"math"
	"slices"
	"testing"

	"cohort/api"
	"cohort/mut"
)

const (
	least    = math.MinInt64
	greatest = math.MaxInt64
)

// ask is a request of any parts, as their order has them.
func ask(kind int, id, to, v int64) api.Mutation {
	return api.Mutation{Kind: kind, ID: id, To: to, V: v}
}

func dropEdge(id, to int64) api.Mutation {
	return api.Mutation{Kind: api.MutRemoveEdge, ID: id, To: to}
}

func dropVertex(id int64) api.Mutation {
	return api.Mutation{Kind: api.MutRemoveVertex, ID: id}
}

func newVertex(id, value int64) api.Mutation {
	return api.Mutation{Kind: api.MutAddVertex, ID: id, V: value}
}

func newEdge(id, to, weight int64) api.Mutation {
	return api.Mutation{Kind: api.MutAddEdge, ID: id, To: to, V: weight}
}

// same tells whether two lists are the same; one that is nil and one that is empty are.
func same(t *testing.T, what string, got, want []api.Mutation) {
	t.Helper()
	if !slices.Equal(got, want) {
		t.Errorf("%s: %v, not %v", what, got, want)
	}
}

// spoil changes all of a list, and what stands behind it.
func spoil(l []api.Mutation) {
	l = l[:cap(l)]
	for i := range l {
		l[i] = ask(-99, -99, -99, -99)
	}
}

// The kinds' numbers, as the document has them: bytes and order hang on them.
func TestKinds(t *testing.T) {
	for i, kind := range []int{api.MutRemoveEdge, api.MutRemoveVertex, api.MutAddVertex, api.MutAddEdge} {
		if kind != i+1 {
			t.Errorf("a kind is %d, not %d", kind, i+1)
		}
	}
}

// Promise 6.1: by each part, those ahead of it alike, whatever those behind it say.
func TestCompareByPart(t *testing.T) {
	for _, c := range []struct {
		name        string
		first, last api.Mutation
	}{
		{"Kind", ask(1, 9, 9, 9), ask(2, 0, 0, 0)},
		{"Kind, the last two", ask(3, 9, 9, 9), ask(4, 0, 0, 0)},
		{"Kind below 0", ask(-1, 9, 9, 9), ask(0, 0, 0, 0)},
		{"Kind at both ends", ask(math.MinInt, 9, 9, 9), ask(math.MaxInt, 0, 0, 0)},
		{"Kind alone", ask(1, 5, 5, 5), ask(2, 5, 5, 5)},
		{"ID", ask(4, 1, 9, 9), ask(4, 2, 0, 0)},
		{"ID below 0", ask(4, -1, 9, 9), ask(4, 0, 0, 0)},
		{"ID at both ends", ask(4, least, 9, 9), ask(4, greatest, 0, 0)},
		{"ID alone", ask(4, 1, 5, 5), ask(4, 2, 5, 5)},
		{"To", ask(4, 5, 1, 9), ask(4, 5, 2, 0)},
		{"To below 0", ask(4, 5, -1, 9), ask(4, 5, 0, 0)},
		{"To at both ends", ask(4, 5, least, 9), ask(4, 5, greatest, 0)},
		{"To alone", ask(4, 5, 1, 5), ask(4, 5, 2, 5)},
		{"V", ask(4, 5, 6, 1), ask(4, 5, 6, 2)},
		{"V below 0", ask(4, 5, 6, -1), ask(4, 5, 6, 0)},
		{"V at both ends", ask(4, 5, 6, least), ask(4, 5, 6, greatest)},
	} {
		if n := mut.Compare(c.first, c.last); n >= 0 {
			t.Errorf("by %s: the first one against the last is %d", c.name, n)
		}
		if n := mut.Compare(c.last, c.first); n <= 0 {
			t.Errorf("by %s: the last one against the first is %d", c.name, n)
		}
		for _, m := range []api.Mutation{c.first, c.last} {
			if n := mut.Compare(m, m); n != 0 {
				t.Errorf("by %s: %v against itself is %d", c.name, m, n)
			}
		}
	}
}

// rising has requests in their order, each two of which differ first in Kind, ID, To or V.
func rising() []api.Mutation {
	l := []api.Mutation{}
	for _, kind := range []int{math.MinInt, -1, 0, 1, 2, 3, 4, 5, math.MaxInt} {
		for _, id := range []int64{least, -2, 0, 2, greatest} {
			for _, to := range []int64{least, -1, 0, 3, greatest} {
				for _, v := range []int64{least, -3, 0, 4, greatest} {
					l = append(l, ask(kind, id, to, v))
				}
			}
		}
	}
	return l
}

// Promise 6.1: each request against each.
func TestCompareAll(t *testing.T) {
	l := rising()
	for i, a := range l {
		for j, b := range l {
			if got := cmp.Compare(mut.Compare(a, b), 0); got != cmp.Compare(i, j) {
				t.Fatalf("%v against %v: %d", a, b, got)
			}
		}
	}
}

// otherKinds has numbers that are no kind.
func otherKinds() []int {
	return []int{0, -1, -2, -3, -4, 5, 6, 17, 256, 257, 258, 1<<32 + 1, 1<<32 + 4, math.MaxInt, math.MinInt}
}

// mayBe tells by the document's list what a kind has, and all else is 0.
func mayBe(m api.Mutation) bool {
	hasTo := map[int]bool{1: true, 2: false, 3: false, 4: true}
	hasV := map[int]bool{1: false, 2: false, 3: true, 4: true}
	_, known := hasTo[m.Kind]
	return known && (hasTo[m.Kind] || m.To == 0) && (hasV[m.Kind] || m.V == 0)
}

// Promise 6.1: requests of each kind, with what their kind has, and with something else.
func TestCheck(t *testing.T) {
	for _, c := range []struct {
		m    api.Mutation
		want bool
	}{
		{ask(1, 5, 6, 0), true},
		{ask(1, 0, 0, 0), true},
		{ask(1, least, greatest, 0), true},
		{ask(1, 5, 5, 0), true},
		{ask(1, 5, 6, 1), false},
		{ask(1, 5, 6, -1), false},
		{ask(2, 5, 0, 0), true},
		{ask(2, 0, 0, 0), true},
		{ask(2, least, 0, 0), true},
		{ask(2, 5, 6, 0), false},
		{ask(2, 5, -6, 0), false},
		{ask(2, 5, 0, 1), false},
		{ask(2, 5, 1, -1), false},
		{ask(3, 5, 0, 7), true},
		{ask(3, 5, 0, 0), true},
		{ask(3, greatest, 0, least), true},
		{ask(3, 5, 1, 7), false},
		{ask(3, 5, greatest, 0), false},
		{ask(4, 5, 6, 7), true},
		{ask(4, 0, 0, 0), true},
		{ask(4, 5, 5, -7), true},
		{ask(4, least, least, least), true},
		{ask(4, greatest, greatest, greatest), true},
		{ask(0, 0, 0, 0), false},
		{ask(5, 0, 0, 0), false},
	} {
		if got := mut.Check(c.m); got != c.want {
			t.Errorf("whether %v may be is told as %v", c.m, got)
		}
	}
	for _, kind := range otherKinds() {
		for _, n := range []int64{0, 1} {
			if m := ask(kind, n, n, n); mut.Check(m) {
				t.Errorf("%v counts as one that may be", m)
			}
		}
	}
	for _, m := range rising() {
		if got := mut.Check(m); got != mayBe(m) {
			t.Errorf("whether %v may be is told as %v", m, got)
		}
	}
}
