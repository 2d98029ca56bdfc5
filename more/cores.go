package more

import (
	"math"

	"cohort/agg"
	"cohort/api"
)

// cores counts a vertex's others that are left, until they are too few, and it is lost to them, too.
func cores(in api.Input) api.Output {
	if in.Step == 0 {
		return bothWays(in, 0)
	}
	l, had := others(in), in.Vertex.Value
	if in.Step == 1 {
		had = int64(len(l))
	}
	if had < 0 {
		return stay(in)
	}
	left, e := less(had, in)
	if e != api.OK {
		return api.Output{Err: e}
	}
	if left < parameter(in) {
		return api.Output{Value: -1, Halt: true, Sent: tell(in, 1, l)}
	}
	return api.Output{Value: left, Halt: true}
}

// less is a number that is not below 0, less what a vertex's messages say. These are summed first, as if they had come combined.
func less(had int64, in api.Input) (int64, api.Errno) {
	x := api.Aggregate{}
	for _, m := range in.Messages {
		next, e := agg.Add(x, api.AggSum, m.V)
		if e != api.OK {
			return 0, e
		}
		x = next
	}
	sum, _ := agg.Get(x, api.AggSum)
	// As had is not below 0, room can be lacking above alone.
	if sum < 0 && had > math.MaxInt64+sum {
		return 0, api.ErrOverflow
	}
	return had - sum, api.OK
}
