package more

import (
	"slices"

	"cohort/api"
)

// matching pairs two vertices that are each other's first; all others forget both, and go on.
func matching(in api.Input) api.Output {
	own := in.Vertex.ID
	if in.Step == 0 {
		return bothWays(in, own)
	}
	l := others(in)
	if in.Vertex.Value != own || len(l) == 0 {
		return stay(in)
	}
	out := api.Output{Value: own}
	switch (in.Step - 1) % 3 {
	case 0:
		out.Sent = tell(in, own, l[:1])
	case 1:
		if heard(in, l[0]) {
			return api.Output{Value: l[0], Halt: true, Sent: tell(in, own, l)}
		}
	case 2:
		out.Mutations = forget(in)
	}
	return out
}

// heard tells whether a message comes from a vertex.
func heard(in api.Input, from int64) bool {
	return slices.ContainsFunc(in.Messages, func(m api.Message) bool { return m.From == from })
}

// forget is the requests that remove a vertex's edges to those that sent messages.
func forget(in api.Input) []api.Mutation {
	var l []api.Mutation
	for _, m := range in.Messages {
		l = append(l, api.Mutation{Kind: api.MutRemoveEdge, ID: in.Vertex.ID, To: m.From})
	}
	return l
}
