package more

import (
	"cohort/api"
)

// triangles counts the triangles in whose middle a vertex is: the least one asks the middle one whether it knows the greatest.
func triangles(in api.Input) api.Output {
	switch in.Step {
	case 0:
		return bothWays(in, 0)
	case 1:
		return api.Output{Halt: true, Sent: pairs(in)}
	}
	n := known(in)
	return api.Output{Value: n, Halt: true, Agg: given(api.AggSum, n)}
}

// pairs is a message for each two of a vertex's others: the later one's number, to the earlier one, if that is above the vertex.
func pairs(in api.Input) []api.Message {
	var sent []api.Message
	l := others(in)
	for i, u := range l {
		if u <= in.Vertex.ID {
			continue
		}
		for _, w := range l[i+1:] {
			sent = append(sent, api.Message{From: in.Vertex.ID, To: u, At: len(sent), V: w})
		}
	}
	return sent
}

// known is how many messages say one of a vertex's others.
func known(in api.Input) int64 {
	there := map[int64]struct{}{}
	for _, id := range others(in) {
		there[id] = struct{}{}
	}
	n := int64(0)
	for _, m := range in.Messages {
		if _, ok := there[m.V]; ok {
			n++
		}
	}
	return n
}
