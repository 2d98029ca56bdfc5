package plane

import (
	"iter"
	"slices"

	"cohort/api"
)

// batches is batches by keys of a kind. What is in it is nobody else's, and stays as it was laid.
type batches[K comparable] map[K]api.Batch

// lay lays a batch. The map is made with the first one, so that what no NewIn and no NewOut made can hold batches, too.
func (l *batches[K]) lay(k K, b api.Batch) {
	if *l == nil {
		*l = batches[K]{}
	}
	(*l)[k] = own(b)
}

// has tells whether there is a batch of a key.
func (l batches[K]) has(k K) bool {
	_, ok := l[k]
	return ok
}

// each is the batches of some keys, which are there, in the keys' order. They may go, and others come, ahead of the going over and during it, which then still tells what was there.
func (l batches[K]) each(keys []K) iter.Seq2[K, api.Batch] {
	now := make([]api.Batch, len(keys))
	for i, k := range keys {
		now[i] = l[k]
	}
	return func(yield func(K, api.Batch) bool) {
		for i, k := range keys {
			// A copy each time, since one who goes over them may change what it is given, and go over them again.
			if !yield(k, own(now[i])) {
				return
			}
		}
	}
}

// own is a batch that shares nothing with the one that is given.
func own(b api.Batch) api.Batch {
	b.Messages = slices.Clone(b.Messages)
	b.Mutations = slices.Clone(b.Mutations)
	return b
}

// moment is a superstep of an epoch.
type moment struct{ epoch, step int }

// when is the moment that a batch is of.
func when(b api.Batch) moment { return moment{b.Epoch, b.Step} }
