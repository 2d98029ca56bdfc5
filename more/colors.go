package more

import (
	"slices"

	"cohort/agg"
	"cohort/api"
)

// colors gives a vertex the least colour that none of its others below it has, until no colour changes any more.
func colors(in api.Input) api.Output {
	if in.Step == 0 {
		return bothWays(in, 0)
	}
	v := unsaid(in)
	if changes, ok := agg.Get(in.Before, api.AggOr); in.Step >= 2 && ok && changes == 0 {
		return api.Output{Value: v, Halt: true}
	}
	changed := int64(0)
	if in.Step == 1 || v != in.Vertex.Value {
		changed = 1
	}
	return api.Output{Value: v, Sent: tell(in, v, above(in)), Agg: given(api.AggOr, changed)}
}

// unsaid is the least number from 0 on that no message says.
func unsaid(in api.Input) int64 {
	said := map[int64]struct{}{}
	for _, m := range in.Messages {
		said[m.V] = struct{}{}
	}
	for n := int64(0); ; n++ {
		if _, ok := said[n]; !ok {
			return n
		}
	}
}

// above is those of a vertex's others whose numbers are above its own.
func above(in api.Input) []int64 {
	return slices.DeleteFunc(others(in), func(id int64) bool { return id < in.Vertex.ID })
}
