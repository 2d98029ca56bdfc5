package comb

import (
	"iter"
	"maps"
	"slices"

	"cohort/api"
)

// Box holds messages, by the vertices that they go to.
type Box struct {
	// The lists stand as they were put, and only grow: what All goes over shares them. They are sorted as they are told.
	of map[int64][]api.Message
}

// New is a box without messages.
func New() *Box {
	return &Box{}
}

// held is the messages of a box. A nil box has a nil map, of which all but storing may be asked.
func (b *Box) held() map[int64][]api.Message {
	if b == nil {
		return nil
	}
	return b.of
}

// Put puts messages in.
func (b *Box) Put(l ...api.Message) api.Errno {
	if b == nil {
		return api.ErrArg
	}
	if b.of == nil {
		b.of = map[int64][]api.Message{}
	}
	for _, m := range l {
		b.of[m.To] = append(b.of[m.To], m)
	}
	return api.OK
}

// Len is how many messages there are.
func (b *Box) Len() int {
	n := 0
	for _, l := range b.held() {
		n += len(l)
	}
	return n
}

// Has tells whether a vertex has messages.
func (b *Box) Has(id int64) bool {
	return len(b.held()[id]) > 0
}

// For is a vertex's messages, in order.
func (b *Box) For(id int64) []api.Message {
	return sorted(b.held()[id])
}

// All is all messages, in order.
func (b *Box) All() iter.Seq[api.Message] {
	// The box may be changed ahead of the going over, and during it, which then still tells what was there.
	now := maps.Clone(b.held())
	return func(yield func(api.Message) bool) {
	vertices:
		for l := range inOrder(now) {
			for _, m := range l {
				if !yield(m) {
					break vertices
				}
			}
		}
	}
}

// Drop takes a vertex's messages away: how many.
func (b *Box) Drop(id int64) int {
	of := b.held()
	n := len(of[id])
	delete(of, id)
	return n
}

// inOrder goes over the vertices that have messages, by their numbers: the messages of each, in order.
func inOrder(of map[int64][]api.Message) iter.Seq[[]api.Message] {
	return func(yield func([]api.Message) bool) {
		for _, id := range slices.Sorted(maps.Keys(of)) {
			if !yield(sorted(of[id])) {
				return
			}
		}
	}
}

// sorted is a list of its own, in order.
func sorted(l []api.Message) []api.Message {
	l = slices.Clone(l)
	slices.SortFunc(l, Compare)
	return l
}
