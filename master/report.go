package master

import (
	"cmp"
	"slices"

	"cohort/agg"
	"cohort/api"
	"cohort/plan"
)

// report is what is kept of a worker's report. The rest of it is the same for all that are wanted.
type report struct {
	failed             bool
	sent, active, many int
	agg                api.Aggregate
	values             []api.Value
}

// keptOf is what is kept of a report that is wanted.
func keptOf(r api.Report) report {
	x := report{failed: r.Err != api.OK, sent: counted(r.Sent), active: counted(r.Active), many: counted(r.Many), agg: r.Agg}
	if r.Phase == api.PhaseCollect {
		x.values = slices.Clone(r.Values)
	}
	return x
}

// counted is how many things a report tells, held to what bytes can tell: sums of them have room then, and tasks can tell of them.
func counted(n int) int {
	return min(max(n, 0), most)
}

// total is all reports of the phase as one. They count by their workers, so that nothing hangs on the order in which they came.
func (c *course) total() report {
	all := report{}
	for _, worker := range plan.Workers(c.assigned) {
		all = all.plus(c.heard[worker])
	}
	slices.SortFunc(all.values, func(a, b api.Value) int {
		return cmp.Or(cmp.Compare(a.ID, b.ID), cmp.Compare(a.V, b.V))
	})
	return all
}

// plus is two reports as one; aggregates that have no room for each other have failed.
func (a report) plus(b report) report {
	both, e := agg.Merge(a.agg, b.agg)
	return report{
		failed: a.failed || b.failed || e != api.OK,
		sent:   a.sent + b.sent,
		active: a.active + b.active,
		many:   a.many + b.many,
		agg:    both,
		values: slices.Concat(a.values, b.values),
	}
}
