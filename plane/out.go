package plane

import (
	"iter"
	"maps"
	"slices"

	"cohort/api"
)

// Out is batches that were sent, and not acknowledged.
type Out struct {
	of batches[int] // by the workers that they go to
}

// NewOut holds no batches.
func NewOut() *Out { return &Out{} }

// held is the batches that were not acknowledged. A nil Out has a nil map, of which all but laying may be asked.
func (x *Out) held() batches[int] {
	if x == nil {
		return nil
	}
	return x.of
}

// Put lays a batch for a worker.
func (x *Out) Put(to int, b api.Batch) api.Errno {
	if x == nil {
		return api.ErrArg
	}
	x.of.lay(to, b)
	return api.OK
}

// Ack notes that a worker has what it was sent: whether that was waited for.
func (x *Out) Ack(from int, b api.Batch) bool {
	of := x.held()
	kept, ok := of[from]
	if !ok || when(kept) != when(b) {
		return false
	}
	delete(of, from)
	return true
}

// All is all batches that were not acknowledged, by the workers that they go to.
func (x *Out) All() iter.Seq2[int, api.Batch] {
	of := x.held()
	return of.each(slices.Sorted(maps.Keys(of)))
}

// Len is how many were not acknowledged.
func (x *Out) Len() int { return len(x.held()) }

// Clear lets all go.
func (x *Out) Clear() { clear(x.held()) }
