package spec

import (
	"slices"

	"cohort/api"
)

// Ranks is the ranks behind so many turns.
func Ranks(g api.Graph, turns int64) []int64 {
	w := weave(g)
	many := int64(max(1, len(w.ids)))
	first := make([]int64, len(w.ids))
	for i := range first {
		first[i] = api.Scale / many
	}
	own := 15 * (api.Scale / 100) / many
	// All ranks together are never above Scale, so that no sum lacks room.
	return behind(turns, first, func(now []int64) []int64 {
		next := make([]int64, len(now))
		for i, l := range w.out {
			for _, a := range l {
				next[a.to] += now[i] / int64(len(l))
			}
		}
		for i, sum := range next {
			next[i] = own + sum*85/100
		}
		return next
	})
}

// Labels is the labels behind so many turns.
func Labels(g api.Graph, turns int64) []int64 {
	w := weave(g)
	return behind(turns, w.ids, func(now []int64) []int64 {
		said := make([][]int64, len(now))
		for i, l := range w.out {
			for _, a := range l {
				said[a.to] = append(said[a.to], now[i])
			}
		}
		next := make([]int64, len(now))
		copy(next, now)
		for i, l := range said {
			if len(l) > 0 {
				next[i] = commonest(l)
			}
		}
		return next
	})
}

// commonest is the number that is there most often, the least of several. It puts the list in order.
func commonest(l []int64) int64 {
	slices.Sort(l)
	best, most, times := l[0], 0, 0
	for i, n := range l {
		if i == 0 || n != l[i-1] {
			times = 0
		}
		times++
		if times > most {
			best, most = n, times
		}
	}
	return best
}

// behind is what values have become behind so many turns. What comes of values hangs on them alone: where they are as they were some turns ago, they go round, and whole rounds are left out, so that it ends however many turns there are.
func behind(turns int64, now []int64, turn func([]int64) []int64) []int64 {
	seen := make([]int64, len(now))
	copy(seen, now)
	ago, wait := int64(0), int64(1)
	for left := turns; left > 0; left-- {
		now = turn(now)
		ago++
		if slices.Equal(now, seen) {
			left = (left-1)%ago + 1
		} else if ago == wait {
			// Ever later values are held against, since the first ones may never come again.
			copy(seen, now)
			ago, wait = 0, 2*wait
		}
	}
	return now
}
