package spec

import (
	"container/heap"

	"cohort/api"
	"cohort/num"
)

// nowhere is how far a vertex is that no way leads to.
const nowhere = -1

// Far is how far each vertex is from one, by weights, or by steps; -1: it can't be reached.
func Far(g api.Graph, from int64, steps bool) ([]int64, api.Errno) {
	w := weave(g)
	first, there := w.place(from)
	if !there {
		return nil, api.ErrNone
	}
	far, settled := make([]int64, len(w.ids)), make([]bool, len(w.ids))
	for i := range far {
		far[i] = nowhere
	}
	q := &queue{{at: first}}
nearest:
	for q.Len() > 0 {
		s := heap.Pop(q).(stop)
		if settled[s.at] {
			continue nearest
		}
		far[s.at], settled[s.at] = s.far, true
		for _, a := range w.out[s.at] {
			next, e := num.Add(s.far, length(a, steps))
			if e != api.OK {
				return nil, e
			}
			heap.Push(q, stop{at: a.to, far: next})
		}
	}
	return far, api.OK
}

// length is how far an edge leads.
func length(a arc, steps bool) int64 {
	if steps {
		return 1
	}
	return a.weight
}

// stop is a place that a way leads to, and how long that way is.
type stop struct {
	at  int
	far int64
}

// queue is stops, of which the nearest one comes first.
type queue []stop

func (q queue) Len() int           { return len(q) }
func (q queue) Less(i, k int) bool { return q[i].far < q[k].far }
func (q queue) Swap(i, k int)      { q[i], q[k] = q[k], q[i] }

// Push is heap's.
func (q *queue) Push(x any) { *q = append(*q, x.(stop)) }

// Pop is heap's.
func (q *queue) Pop() any {
	l := *q
	s := l[len(l)-1]
	*q = l[:len(l)-1]
	return s
}
