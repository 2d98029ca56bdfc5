package master

import (
	"slices"

	"cohort/api"
	"cohort/plan"
)

// course is how the job that runs stands.
type course struct {
	id                 int
	epoch, step, phase int
	assigned           []int          // the worker of each partition; none: it waits until one joins
	heard              map[int]report // of this phase, by workers
	before             api.Aggregate  // of the superstep ahead
	gave               api.Aggregate  // of this superstep, from the end of PhaseCompute on
	many               int            // vertices, as they were counted last
	kept               checkpoint
}

// checkpoint is ahead of which superstep the parts were kept (0: none was), in which epoch, and with which aggregate.
type checkpoint struct {
	step, epoch int
	before      api.Aggregate
}

// has tells whether a worker has a partition. There may be no course.
func (c *course) has(worker int) bool {
	return c != nil && slices.Contains(c.assigned, worker)
}

// awaits tells whether a worker has a partition, and has not reported.
func (c *course) awaits(worker int) bool {
	if !c.has(worker) {
		return false
	}
	_, reported := c.heard[worker]
	return !reported
}

// complete tells whether all workers that have partitions have reported.
func (c *course) complete() bool {
	return len(c.assigned) > 0 && !slices.ContainsFunc(c.assigned, c.awaits)
}

// leave takes all partitions from their workers, with what these have told.
func (c *course) leave() {
	c.assigned, c.heard, c.gave = nil, nil, api.Aggregate{}
}

func (c *course) enter(phase int) {
	c.phase, c.heard = phase, map[int]report{}
}

// goOn begins what can begin now.
func (m *Master) goOn() {
	if len(m.workers) == 0 {
		return
	}
	if m.course == nil {
		m.course = m.first()
	}
	if m.course != nil && len(m.course.assigned) == 0 {
		m.begin(m.course)
	}
}

// first is the course of the first job that is Queued; nil: none is.
func (m *Master) first() *course {
	at := slices.IndexFunc(m.jobs, func(j job) bool { return j.state == api.Queued })
	if at < 0 {
		return nil
	}
	m.jobs[at].state = api.Running
	return &course{id: at + 1}
}

func (m *Master) begin(c *course) {
	m.epoch++
	c.epoch, c.step, c.before = m.epoch, c.kept.step, c.kept.before
	c.assigned = plan.Assign(m.jobs[c.id-1].spec.Parts, m.Workers())
	c.enter(api.PhaseLoad)
}

// end closes a job that is open. Nothing stays of how it stood.
func (m *Master) end(id, state int, o api.Outcome) {
	m.jobs[id-1].state, m.jobs[id-1].outcome = state, o
	if m.course != nil && m.course.id == id {
		m.course = nil
	}
	m.goOn()
}

func (m *Master) fail(e api.Errno) {
	m.end(m.course.id, api.Ended, api.Outcome{Kind: api.Failed, Err: e, Steps: m.course.step})
}

// endPhase goes on from a phase of which all have reported.
func (m *Master) endPhase() {
	c := m.course
	all := c.total()
	switch {
	case all.failed:
		m.fail(api.ErrOverflow)
	case c.phase == api.PhaseCompute && all.sent > m.jobs[c.id-1].spec.Sent:
		m.fail(api.ErrQuota)
	case c.phase == api.PhaseCompute:
		c.gave = all.agg
		c.enter(api.PhaseClose)
	case c.phase == api.PhaseCollect:
		m.end(c.id, api.Ended, api.Outcome{Kind: api.Done, Steps: c.step, Values: all.values})
	default:
		m.endLoad(all)
	}
}

// endLoad goes on where all parts are as they are ahead of a superstep: loaded, or closed behind the one ahead of it.
func (m *Master) endLoad(all report) {
	c := m.course
	c.many = counted(all.many)
	if c.phase == api.PhaseClose {
		c.closeStep()
	}
	switch {
	case all.active == 0:
		c.enter(api.PhaseCollect)
	case c.step == m.jobs[c.id-1].spec.Steps:
		m.fail(api.ErrSteps)
	default:
		c.enter(api.PhaseCompute)
	}
}

func (c *course) closeStep() {
	c.step++
	c.before, c.gave = c.gave, api.Aggregate{}
	if c.step%api.Keep == 0 {
		c.kept = checkpoint{step: c.step, epoch: c.epoch, before: c.before}
	}
}
