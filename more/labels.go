package more

import (
	"cohort/api"
	"cohort/kern"
)

// labels takes over, turn by turn, what most neighbours say.
func labels(in api.Input) api.Output {
	v := in.Vertex.ID
	if in.Step != 0 {
		v = commonest(in)
	}
	out := api.Output{Value: v, Halt: int64(in.Step) >= parameter(in)}
	if !out.Halt {
		out.Sent = kern.To(in, v)
	}
	return out
}

// commonest is what most messages say, and what a vertex has, if there are none. The least of several, so that the map's order is not to be seen.
func commonest(in api.Input) int64 {
	counts := map[int64]int{}
	for _, m := range in.Messages {
		counts[m.V]++
	}
	best, most := in.Vertex.Value, 0
	for v, n := range counts {
		if n > most || n == most && v < best {
			best, most = v, n
		}
	}
	return best
}
