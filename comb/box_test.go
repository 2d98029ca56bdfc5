package comb_test

import (
	"iter"
	"math"
	"math/rand"
	"slices"
	"testing"

	"cohort/api"
	"cohort/comb"
)

// boxOf is a box with messages, which are put all at once.
func boxOf(t *testing.T, l ...api.Message) *comb.Box {
	t.Helper()
	b := comb.New()
	if e := b.Put(l...); e != api.OK {
		t.Fatalf("Put: error %d", e)
	}
	return b
}

// several has messages to some vertices, one of them twice over, in no order.
func several() []api.Message {
	return []api.Message{msg(3, 2, 0, 7), msg(3, 1, 0, 4), msg(2, 1, 1, 1), msg(-5, 3, 0, 0), msg(3, 2, 0, 7), msg(3, 1, 2, -4),
		msg(3, 1, 2, -5), msg(greatest, 0, 0, 0), msg(least, least, 0, greatest), msg(3, -1, 9, 9), msg(2, 1, 0, 6), msg(0, 0, 0, 0)}
}

// inOrder is a list in the order of messages, by a rule of the test's own.
func inOrder(l []api.Message) []api.Message {
	l = slices.Clone(l)
	for i := range l {
		for j := i; j > 0 && ahead(l[j], l[j-1]); j-- {
			l[j], l[j-1] = l[j-1], l[j]
		}
	}
	return l
}

// ahead tells whether a stands ahead of b.
func ahead(a, b api.Message) bool {
	switch {
	case a.To != b.To:
		return a.To < b.To
	case a.From != b.From:
		return a.From < b.From
	case a.At != b.At:
		return a.At < b.At
	}
	return a.V < b.V
}

// to is those of a list that go to a vertex.
func to(id int64, l []api.Message) []api.Message {
	return slices.DeleteFunc(slices.Clone(l), func(m api.Message) bool { return m.To != id })
}

// over is what goes by, up to so many.
func over(seq iter.Seq[api.Message], most int) []api.Message {
	l := []api.Message{}
	if most == 0 {
		return l
	}
	for m := range seq {
		l = append(l, m)
		if len(l) == most {
			break
		}
	}
	return l
}

// holds tells whether a box has just these messages, by all that it can be asked.
func holds(t *testing.T, what string, b *comb.Box, want []api.Message) {
	t.Helper()
	want = inOrder(want)
	if n := b.Len(); n != len(want) {
		t.Errorf("%s: %d messages, not %d", what, n, len(want))
	}
	same(t, what+", all", over(b.All(), math.MaxInt), want)
	ids := []int64{least, least + 1, -5, -1, 0, 1, 2, 3, 4, 7, 1 << 32, greatest - 1, greatest}
	for _, m := range want {
		ids = append(ids, m.To, m.From, int64(m.At), m.V)
	}
	for _, id := range ids {
		some := to(id, want)
		if b.Has(id) != (len(some) > 0) {
			t.Errorf("%s: whether %d has messages is told as %v", what, id, b.Has(id))
		}
		same(t, what+", those of one", b.For(id), some)
	}
}

// Promise 5.1: a new box, and one that nobody made, have nothing.
func TestNew(t *testing.T) {
	holds(t, "a new box", comb.New(), nil)
	if n := comb.New().Drop(3); n != 0 {
		t.Errorf("a new box drops %d", n)
	}
	plain := &comb.Box{}
	holds(t, "a plain box", plain, nil)
	if n := plain.Drop(3); n != 0 {
		t.Errorf("a plain box drops %d", n)
	}
	if e := plain.Put(several()...); e != api.OK {
		t.Errorf("Put on a plain box: error %d", e)
	}
	holds(t, "a plain box with messages", plain, several())
}

// The document's example.
func TestExample(t *testing.T) {
	b := boxOf(t, api.Message{From: 2, To: 3}, api.Message{From: 1, To: 3})
	same(t, "that of 1 first", b.For(3), []api.Message{{From: 1, To: 3}, {From: 2, To: 3}})
}

// Promise 5.1: none, one, and many, at once and one by one.
func TestPut(t *testing.T) {
	b := boxOf(t)
	holds(t, "none", b, nil)
	if e := b.Put([]api.Message{}...); e != api.OK {
		t.Errorf("Put of an empty list: error %d", e)
	}
	holds(t, "none again", b, nil)
	for i, m := range several() {
		holds(t, "one", boxOf(t, m), []api.Message{m})
		if e := b.Put(m); e != api.OK {
			t.Errorf("Put of one: error %d", e)
		}
		holds(t, "one by one", b, several()[:i+1])
		b.Put()
		holds(t, "and none behind it", b, several()[:i+1])
	}
	holds(t, "all at once", boxOf(t, several()...), several())
}

// Promise 5.1: what is put more than once is there as often.
func TestPutSame(t *testing.T) {
	m := msg(4, 1, 0, 9)
	b := boxOf(t, m, m)
	holds(t, "twice at once", b, []api.Message{m, m})
	b.Put(m)
	b.Put(msg(4, 1, 0, 8), m)
	holds(t, "and again", b, []api.Message{m, m, m, m, msg(4, 1, 0, 8)})
}

// Promise 5.1: by each part of a message, the order is the same however they were put.
func TestPutInAnyOrder(t *testing.T) {
	for _, l := range [][]api.Message{
		{msg(1, 9, 9, 9), msg(2, 8, 8, 8), msg(3, 7, 7, 7), msg(-4, 10, 10, 10)},
		{msg(5, 1, 9, 9), msg(5, 2, 8, 8), msg(5, 3, 7, 7), msg(5, -4, 10, 10)},
		{msg(5, 6, 1, 9), msg(5, 6, 2, 8), msg(5, 6, 3, 7), msg(5, 6, 0, 10)},
		{msg(5, 6, 7, 1), msg(5, 6, 7, 2), msg(5, 6, 7, 3), msg(5, 6, 7, -4)},
	} {
		orders(l, 0, func(l []api.Message) {
			holds(t, "at once", boxOf(t, l...), l)
			b := comb.New()
			for _, m := range l {
				b.Put(m)
				b.For(m.To)
			}
			holds(t, "one by one", b, l)
		})
	}
}

// orders calls f with a list in all its orders.
func orders(l []api.Message, from int, f func(l []api.Message)) {
	if from == len(l) {
		f(l)
		return
	}
	for i := from; i < len(l); i++ {
		l[from], l[i] = l[i], l[from]
		orders(l, from+1, f)
		l[from], l[i] = l[i], l[from]
	}
}

// Promise 5.1: as many as there may be in a superstep, the last ones first.
func TestPutMany(t *testing.T) {
	want := []api.Message{}
	for i := range api.MaxSent {
		want = append(want, msg(int64(i/300), int64(i), i%7, -int64(i)))
	}
	b := comb.New()
	for _, m := range slices.Backward(want) {
		b.Put(m)
	}
	if n := b.Len(); n != len(want) {
		t.Errorf("%d messages, not %d", n, len(want))
	}
	if got := over(b.All(), math.MaxInt); !slices.Equal(got, want) {
		t.Errorf("other messages are gone over")
	}
	if got := b.For(2); !slices.Equal(got, want[600:900]) {
		t.Errorf("other messages for one vertex")
	}
}

// Promise 5.1: left at each message, and gone over again from the first on.
func TestAllLeft(t *testing.T) {
	want := inOrder(several())
	b := boxOf(t, several()...)
	seq := b.All()
	for n := range len(want) + 1 {
		same(t, "left before the end", over(seq, n), want[:n])
		same(t, "again, to the end", over(seq, math.MaxInt), want)
		same(t, "another one, left before the end", over(b.All(), n), want[:n])
	}
	holds(t, "behind it", b, several())
}

// Promise 5.1: one who has had enough is told no more.
func TestAllStops(t *testing.T) {
	b := boxOf(t, several()...)
	for most := 1; most <= len(several()); most++ {
		n := 0
		b.All()(func(api.Message) bool {
			n++
			return n < most
		})
		if n != most {
			t.Errorf("%d are told, not %d", n, most)
		}
	}
}

// Promise 5.1: one that is gone over within another one.
func TestAllWithin(t *testing.T) {
	seq := boxOf(t, several()...).All()
	want := inOrder(several())
	for i := range want {
		at := 0
		for m := range seq {
			if at == i {
				same(t, "within", over(seq, i+1), want[:i+1])
			}
			if m != want[at] {
				t.Errorf("at %d: %v, not %v", at, m, want[at])
			}
			at++
		}
	}
}

// Promise 5.1, R2: it tells what was there as it was asked for, whatever is put and dropped ahead of the going over and during it.
func TestAllLater(t *testing.T) {
	for at := range len(several()) + 1 {
		b := boxOf(t, several()...)
		seq := b.All()
		change := func() {
			b.Put(msg(3, 0, 0, 0), msg(1, 1, 1, 1), msg(-6, 1, 1, 1), msg(2, 0, 0, 5))
			b.Drop(0)
			b.Drop(3)
			b.Put(msg(3, 9, 9, 9), msg(4, 4, 4, 4))
		}
		l := []api.Message{}
		for m := range seq {
			if len(l) == at {
				change()
			}
			l = append(l, m)
		}
		same(t, "changed during it", l, inOrder(several()))
		change()
		same(t, "changed ahead of it", over(seq, math.MaxInt), inOrder(several()))
	}
	b := comb.New()
	seq := b.All()
	b.Put(several()...)
	same(t, "of a box without messages, as then", over(seq, math.MaxInt), nil)
	holds(t, "and now", b, several())
}

// Promise 5.1: a vertex's go, and those of others stay.
func TestDrop(t *testing.T) {
	for _, id := range []int64{3, 2, -5, 0, least, greatest, 1, 4, -1, 7, least + 1, greatest - 1} {
		b := boxOf(t, several()...)
		some := to(id, several())
		if n := b.Drop(id); n != len(some) {
			t.Errorf("%d are dropped of %d, not %d", n, id, len(some))
		}
		left := slices.DeleteFunc(several(), func(m api.Message) bool { return m.To == id })
		holds(t, "what is left", b, left)
		if n := b.Drop(id); n != 0 {
			t.Errorf("%d are dropped of %d once more", n, id)
		}
		holds(t, "what is left behind a second time", b, left)
		b.Put(msg(id, 1, 1, 1), msg(id, 0, 0, 0))
		holds(t, "with new ones", b, append(left, msg(id, 1, 1, 1), msg(id, 0, 0, 0)))
		if n := b.Drop(id); n != 2 {
			t.Errorf("%d new ones are dropped of %d, not 2", n, id)
		}
		holds(t, "what is left behind the new ones", b, left)
	}
}

// Promise 5.1: vertex by vertex, till none is left.
func TestDropAll(t *testing.T) {
	left := several()
	b := boxOf(t, left...)
	for m := range b.All() {
		want := len(to(m.To, left))
		if n := b.Drop(m.To); n != want {
			t.Errorf("%d are dropped of %d, not %d", n, m.To, want)
		}
		left = slices.DeleteFunc(left, func(x api.Message) bool { return x.To == m.To })
		holds(t, "what is left", b, left)
	}
	holds(t, "at the end", b, nil)
	b.Put(several()...)
	holds(t, "full again", b, several())
}

// Promise 5.1: calls of all kinds in many orders, held against a list.
func TestBoxAgainstList(t *testing.T) {
	chance := rand.New(rand.NewSource(5))
	for range 60 {
		b, l := comb.New(), []api.Message{}
		for range 25 {
			id := int64(chance.Intn(5) - 2)
			if chance.Intn(4) == 0 {
				if n, want := b.Drop(id), len(to(id, l)); n != want {
					t.Fatalf("%d are dropped of %d, not %d", n, id, want)
				}
				l = slices.DeleteFunc(l, func(m api.Message) bool { return m.To == id })
			}
			some := []api.Message{}
			for range chance.Intn(4) {
				some = append(some, msg(id+int64(chance.Intn(2)), int64(chance.Intn(3)-1), chance.Intn(2), int64(chance.Intn(3)-1)))
			}
			b.Put(some...)
			l = append(l, some...)
			holds(t, "among others", b, l)
		}
	}
}

// Promise 5.1.
func TestNilBox(t *testing.T) {
	var b *comb.Box
	for _, l := range [][]api.Message{nil, {}, several()[:1], several()} {
		if e := b.Put(l...); e != api.ErrArg {
			t.Errorf("Put of %d on a nil box: error %d", len(l), e)
		}
	}
	holds(t, "a nil box", b, nil)
	for _, id := range []int64{0, 3, -1, least, greatest} {
		if n := b.Drop(id); n != 0 {
			t.Errorf("a nil box drops %d of %d", n, id)
		}
	}
	same(t, "left before the end", over(b.All(), 1), nil)
}

// R2: what is told can be changed, and what was handed in.
func TestBoxOwn(t *testing.T) {
	l := append(make([]api.Message, 0, 40), several()...)
	behind := slices.Clone(l[len(l):cap(l)])
	b := comb.New()
	b.Put(l...)
	same(t, "what was handed in", l, several())
	same(t, "what stands behind it", l[len(l):cap(l)], behind)
	holds(t, "a box", b, several())
	same(t, "what was handed in, as it was told", l, several())
	seq := b.All()
	spoil(l)
	holds(t, "as what was handed in is changed", b, several())
	for _, id := range []int64{3, 2, 0, 1} {
		first, second := b.For(id), b.For(id)
		spoil(first)
		same(t, "another answer, as one is changed", second, inOrder(to(id, several())))
		_ = append(second[:0], msg(id, -9, -9, -9))
		holds(t, "as what is told is changed", b, several())
	}
	same(t, "what is gone over, as what is told is changed", over(seq, math.MaxInt), inOrder(several()))
	told := b.For(3)
	b.Put(msg(3, 0, 0, 0))
	b.Drop(3)
	b.Put(msg(3, 5, 5, 5))
	same(t, "what was told, as the box is changed", told, inOrder(to(3, several())))
}

// R5: two boxes have nothing to do with one another.
func TestBoxesApart(t *testing.T) {
	a, b := boxOf(t, several()...), boxOf(t, several()...)
	a.Drop(3)
	a.Put(msg(3, 9, 9, 9))
	holds(t, "the other box", b, several())
}
