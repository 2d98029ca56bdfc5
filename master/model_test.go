package master_test

import (
	"cmp"
	"math/big"
	"slices"

	"cohort/api"
	"cohort/run"
)

// model is the same by another way: all that ever happened is there, in lists, and nothing is worked out ahead of being asked for.
type model struct {
	told   map[int64][]api.Reply
	there  []api.Command // the joins of those that are there, by workers
	jobs   []*modelJob
	epochs int
}

type modelJob struct {
	spec     api.Job
	state    int
	outcome  api.Outcome
	epoch    int
	step     int
	phase    int
	many     int
	assigned []int
	reports  []api.Report      // of the phase
	gave     []api.Aggregate   // of each superstep that was closed, as they were closed
	closing  api.Aggregate     // of the one that is
	kept     []int             // supersteps of checkpoints, each with its epoch
	keptIn   []int             //
	keptGave [][]api.Aggregate // what had been given by then
}

func newModel() *model { return &model{told: map[int64][]api.Reply{}} }

func (m *model) running() (int, *modelJob) {
	for i, j := range m.jobs {
		if j.state == api.Running {
			return i + 1, j
		}
	}
	return 0, nil
}

func (m *model) open() int {
	n := 0
	for _, j := range m.jobs {
		if j.state == api.Queued || j.state == api.Running {
			n++
		}
	}
	return n
}

func (m *model) workers() []int {
	var l []int
	for _, c := range m.there {
		l = append(l, c.Worker)
	}
	return l
}

func (m *model) life(worker int) (int, bool) {
	for _, c := range m.there {
		if c.Worker == worker {
			return c.Life, true
		}
	}
	return 0, false
}

func (m *model) look(session int64, seq int) (api.Reply, bool, api.Errno) {
	l := m.told[session]
	switch {
	case seq < 1:
		return api.Reply{}, false, api.ErrArg
	case seq == len(l):
		return l[seq-1], true, api.OK
	case seq < len(l):
		return api.Reply{}, false, api.ErrOld
	case seq > len(l)+1:
		return api.Reply{}, false, api.ErrGap
	case len(l) == 0 && len(m.told) == api.MaxSessions:
		return api.Reply{}, false, api.ErrMany
	}
	return api.Reply{}, false, api.OK
}

func (m *model) apply(c api.Command) (api.Reply, api.Errno) {
	switch c.Kind {
	case api.CmdSubmit, api.CmdCancel:
		a, was, e := m.look(c.Session, c.Seq)
		if was || e != api.OK {
			return a, e
		}
		if c.Kind == api.CmdSubmit {
			a = m.submit(c.S)
		} else {
			a = m.cancel(c.ID)
		}
		m.told[c.Session] = append(m.told[c.Session], a)
		return a, api.OK
	case api.CmdJoin:
		m.join(c)
	case api.CmdLose:
		if life, ok := m.life(c.Worker); ok && life == c.Life {
			m.lose(c.Worker)
		}
	case api.CmdReport:
		if m.wants(c.Report) {
			m.hear(c.Report)
		}
	default:
		return api.Reply{}, api.ErrCmd
	}
	return api.Reply{}, api.OK
}

func (m *model) submit(s string) api.Reply {
	j, e := run.DecodeJob(s)
	if e != api.OK {
		return api.Reply{Err: e}
	}
	if m.open() == api.MaxQueue || len(m.jobs) == api.MaxJobs {
		return api.Reply{Err: api.ErrBusy}
	}
	m.jobs = append(m.jobs, &modelJob{spec: j, state: api.Queued})
	m.on()
	return api.Reply{ID: len(m.jobs)}
}

func (m *model) cancel(id int) api.Reply {
	if id < 1 || id > len(m.jobs) {
		return api.Reply{Err: api.ErrJob}
	}
	j := m.jobs[id-1]
	if j.state == api.Queued || j.state == api.Running {
		j.state = api.Cancelled
		m.on()
	}
	return api.Reply{ID: id}
}

func (m *model) join(c api.Command) {
	life, there := m.life(c.Worker)
	if c.Worker < 0 || c.Worker > 63 || there && life >= c.Life {
		return
	}
	if there {
		m.lose(c.Worker)
	}
	m.there = append(m.there, c)
	slices.SortFunc(m.there, func(a, b api.Command) int { return a.Worker - b.Worker })
	m.on()
}

func (m *model) lose(worker int) {
	m.there = slices.DeleteFunc(m.there, func(c api.Command) bool { return c.Worker == worker })
	if _, j := m.running(); j != nil && slices.Contains(j.assigned, worker) {
		j.assigned, j.reports = nil, nil
		m.on()
	}
}

// on is what happens when a job ends, one is submitted, a worker joins or is lost.
func (m *model) on() {
	if len(m.there) == 0 {
		return
	}
	_, j := m.running()
	for i := 0; j == nil && i < len(m.jobs); i++ {
		if m.jobs[i].state == api.Queued {
			j = m.jobs[i]
			j.state = api.Running
		}
	}
	if j == nil || j.assigned != nil {
		return
	}
	m.epochs++
	j.epoch, j.phase, j.step, j.gave, j.reports = m.epochs, api.PhaseLoad, 0, nil, nil
	if n := len(j.kept); n > 0 {
		j.step, j.gave = j.kept[n-1], j.keptGave[n-1]
	}
	for part := range j.spec.Parts {
		j.assigned = append(j.assigned, m.there[part%len(m.there)].Worker)
	}
}

func (j *modelJob) waitsFor(worker int) bool {
	return slices.Contains(j.assigned, worker) && !slices.ContainsFunc(j.reports, func(r api.Report) bool { return r.Worker == worker })
}

func (m *model) wants(r api.Report) bool {
	id, j := m.running()
	return j != nil && r.Job == id && r.Epoch == j.epoch && r.Step == j.step && r.Phase == j.phase && j.waitsFor(r.Worker)
}

func (m *model) hear(r api.Report) {
	_, j := m.running()
	r.Values = slices.Clone(r.Values)
	j.reports = append(j.reports, r)
	for _, w := range j.assigned {
		if j.waitsFor(w) {
			return
		}
	}
	slices.SortFunc(j.reports, func(a, b api.Report) int { return a.Worker - b.Worker })
	j.over()
	m.on()
}

// over is what happens when all have reported.
func (j *modelJob) over() {
	l := j.reports
	j.reports = nil
	total := func(of func(r api.Report) int) int {
		n := 0
		for _, r := range l {
			n += of(r)
		}
		return n
	}
	sum, ok := together(l)
	for _, r := range l {
		ok = ok && r.Err == api.OK
	}
	switch {
	case !ok:
		j.fail(api.ErrOverflow)
		return
	case j.phase == api.PhaseCompute && total(func(r api.Report) int { return r.Sent }) > j.spec.Sent:
		j.fail(api.ErrQuota)
		return
	case j.phase == api.PhaseCompute:
		j.phase, j.closing = api.PhaseClose, sum
		return
	case j.phase == api.PhaseCollect:
		j.collect(l)
		return
	case j.phase == api.PhaseClose:
		j.step++
		j.gave = append(slices.Clone(j.gave), j.closing)
		if j.step%4 == 0 {
			j.kept, j.keptIn, j.keptGave = append(j.kept, j.step), append(j.keptIn, j.epoch), append(j.keptGave, j.gave)
		}
	}
	j.many = total(func(r api.Report) int { return r.Many })
	j.phase = api.PhaseCompute
	if total(func(r api.Report) int { return r.Active }) == 0 {
		j.phase = api.PhaseCollect
	} else if j.step == j.spec.Steps {
		j.fail(api.ErrSteps)
	}
}

func (j *modelJob) fail(e api.Errno) {
	j.state, j.outcome = api.Ended, api.Outcome{Kind: api.Failed, Err: e, Steps: j.step}
}

func (j *modelJob) collect(l []api.Report) {
	o := api.Outcome{Kind: api.Done, Steps: j.step}
	for _, r := range l {
		o.Values = append(o.Values, r.Values...)
	}
	slices.SortFunc(o.Values, func(a, b api.Value) int { return cmp.Compare(a.V, b.V) })
	slices.SortStableFunc(o.Values, func(a, b api.Value) int { return cmp.Compare(a.ID, b.ID) })
	j.state, j.outcome = api.Ended, o
}

// together is the aggregates of reports as one, and whether sums had room, one behind the other.
func together(l []api.Report) (api.Aggregate, bool) {
	x := api.Aggregate{}
	for kind := range api.Aggs {
		var sum *big.Int
		for _, r := range l {
			if !r.Agg.Has[kind] {
				continue
			}
			v := big.NewInt(r.Agg.V[kind])
			if sum == nil {
				sum = v
				continue
			}
			switch kind {
			case api.AggSum:
				sum = new(big.Int).Add(sum, v)
				if !sum.IsInt64() {
					return api.Aggregate{}, false
				}
			case api.AggMin:
				if v.Cmp(sum) < 0 {
					sum = v
				}
			case api.AggMax:
				if v.Cmp(sum) > 0 {
					sum = v
				}
			case api.AggAnd:
				sum = new(big.Int).And(sum, v)
			case api.AggOr:
				sum = new(big.Int).Or(sum, v)
			}
		}
		if sum != nil {
			x.Has[kind], x.V[kind] = true, sum.Int64()
		}
	}
	return x, true
}

func (m *model) task(worker int) (api.Task, bool) {
	id, j := m.running()
	if j == nil || !j.waitsFor(worker) {
		return api.Task{}, false
	}
	x := api.Task{Job: id, Epoch: j.epoch, Step: j.step, Phase: j.phase, Assigned: j.assigned, Spec: j.spec, Many: j.many, Keep: j.step%4 == 3}
	for part, w := range j.assigned {
		if w == worker {
			x.Parts = append(x.Parts, part)
		}
	}
	if n := len(j.gave); n > 0 {
		x.Before = j.gave[n-1]
	}
	if n := len(j.kept); n > 0 {
		x.From, x.FromEpoch = j.kept[n-1], j.keptIn[n-1]
	}
	return x, true
}

func (m *model) status(id int) (api.Status, api.Errno) {
	if id < 1 || id > len(m.jobs) {
		return api.Status{}, api.ErrJob
	}
	j := m.jobs[id-1]
	s := api.Status{ID: id, State: j.state, Outcome: j.outcome}
	if j.state == api.Running {
		s.Step, s.Epoch = j.step, j.epoch
	}
	return s, api.OK
}
