package plan

import (
	"maps"
	"slices"

	"cohort/api"
)

// longest is the most ticks that a lease may last.
const longest = 1 << 20

// Leases is of which workers one has heard.
type Leases struct {
	long int
	of   map[int]lease // by workers; made with the first lease, so that leases that nobody made by New can be renewed, too
}

// lease is in which life a worker was heard of last, and at which tick.
type lease struct {
	life, tick int
}

// New is leases that last so many ticks.
func New(long int) (*Leases, api.Errno) {
	if long < 1 || long > longest {
		return nil, api.ErrArg
	}
	return &Leases{long: long}, api.OK
}

// Renew notes that a worker was heard of, in a life: whether it is another one than before.
func (l *Leases) Renew(worker, life, now int) bool {
	if l == nil {
		return false
	}
	had, there := l.of[worker]
	if there && (had.life > life || had.tick > now) {
		return false
	}
	if l.of == nil {
		l.of = map[int]lease{}
	}
	l.of[worker] = lease{life: life, tick: now}
	return !there || had.life != life
}

// Life is a worker's life.
func (l *Leases) Life(worker int) (int, bool) {
	if l == nil {
		return 0, false
	}
	had, there := l.of[worker]
	return had.life, there
}

// Gone is the workers of which nothing was heard for too long, rising.
func (l *Leases) Gone(now int) []int {
	if l == nil {
		return nil
	}
	var gone []int
	for worker, had := range l.of {
		if had.over(l.long, now) {
			gone = append(gone, worker)
		}
	}
	slices.Sort(gone)
	return gone
}

// Drop lets a worker's lease go.
func (l *Leases) Drop(worker int) bool {
	if l == nil {
		return false
	}
	_, there := l.of[worker]
	delete(l.of, worker)
	return there
}

// Live is the workers that have a lease, rising.
func (l *Leases) Live() []int {
	if l == nil {
		return nil
	}
	return slices.Sorted(maps.Keys(l.of))
}

// over tells whether so many ticks are behind a lease. Two ticks may be further apart than an int can tell, so they are counted without a sign.
func (a lease) over(long, now int) bool {
	return a.tick <= now && uint(now)-uint(a.tick) >= uint(long)
}
