package plane

import (
	"cmp"
	"slices"

	"cohort/api"
)

// In is batches that came.
type In struct {
	of batches[origin]
}

// origin is which batch one is: a worker sends another one a single batch in a superstep of an epoch.
type origin struct {
	at   moment
	from int
}

// NewIn holds no batches.
func NewIn() *In { return &In{} }

// held is the batches that came. A nil In has a nil map, of which all but laying may be asked.
func (x *In) held() batches[origin] {
	if x == nil {
		return nil
	}
	return x.of
}

// Put takes a batch in: whether it is the first one of its epoch, superstep and worker.
func (x *In) Put(b api.Batch) bool {
	k := origin{when(b), b.From}
	if x == nil || x.of.has(k) {
		return false
	}
	x.of.lay(k, b)
	return true
}

// Has tells whether a worker's batch is there.
func (x *In) Has(epoch, step, from int) bool {
	return x.held().has(origin{moment{epoch, step}, from})
}

// Take is all of a superstep, by the workers that it came from; it is let go.
func (x *In) Take(epoch, step int) ([]api.Message, []api.Mutation) {
	var sent []api.Message
	var asked []api.Mutation
	of := x.held()
	for k, b := range of.each(came(of, moment{epoch, step})) {
		sent = append(sent, b.Messages...)
		asked = append(asked, b.Mutations...)
		delete(of, k)
	}
	return sent, asked
}

// Drop lets all batches of epochs below one go: how many.
func (x *In) Drop(epoch int) int {
	n := 0
	of := x.held()
	for k := range of {
		if k.at.epoch < epoch {
			delete(of, k)
			n++
		}
	}
	return n
}

// Len is how many batches there are.
func (x *In) Len() int { return len(x.held()) }

// came is where the batches of a moment came from, by the workers' numbers.
func came(of batches[origin], at moment) []origin {
	var l []origin
	for k := range of {
		if k.at == at {
			l = append(l, k)
		}
	}
	slices.SortFunc(l, func(a, b origin) int { return cmp.Compare(a.from, b.from) })
	return l
}
