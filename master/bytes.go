package master

import (
	"slices"

	"cohort/agg"
	"cohort/api"
	"cohort/plan"
	"cohort/run"
	"cohort/sess"
	"cohort/wire"
)

// Encode is all that masters agreed on, as bytes.
func (m *Master) Encode() string {
	if m == nil {
		return ""
	}
	w := wire.NewWriter()
	m.asked.Put(w)
	w.Count(len(m.workers))
	for _, worker := range m.Workers() {
		w.Count(worker)
		w.Signed(int64(m.workers[worker]))
	}
	w.Count(m.epoch)
	w.Count(len(m.jobs))
	for _, j := range m.jobs {
		w.Count(j.state)
		run.PutJob(w, j.spec)
		switch j.state {
		case api.Running:
			m.course.put(w)
		case api.Ended:
			putOutcome(w, j.outcome)
		}
	}
	return w.All()
}

// Decode is the master of bytes.
func Decode(s string) (*Master, api.Errno) {
	r := wire.NewReader(s)
	m := take(r)
	if e := r.End(); e != api.OK {
		return nil, e
	}
	if !m.sound() || m.Encode() != s {
		return nil, api.ErrForm
	}
	return m, api.OK
}

func take(r *wire.Reader) *Master {
	m := &Master{asked: sess.Take(r), workers: map[int]int{}}
	for range r.Count(api.MaxWorkers) {
		worker := r.Count(api.MaxWorkers - 1)
		m.workers[worker] = int(r.Signed())
	}
	m.epoch = r.Count(most)
	for id := range r.Count(api.MaxJobs) {
		j := job{state: r.Count(api.Cancelled), spec: run.TakeJob(r)}
		switch j.state {
		case api.Running:
			m.course = takeCourse(r, j.spec.Parts)
			m.course.id = id + 1
		case api.Ended:
			j.outcome = takeOutcome(r)
		}
		m.jobs = append(m.jobs, j)
	}
	return m
}

func putOutcome(w *wire.Writer, o api.Outcome) {
	putNumbers(w, o.Kind, int(o.Err), o.Steps)
	putValues(w, o.Values)
}

// takeOutcome takes more values than run.Decode would: reports may bring as many as they like.
func takeOutcome(r *wire.Reader) api.Outcome {
	return api.Outcome{Kind: r.Count(api.Failed), Err: api.Errno(r.Count(most)), Steps: r.Count(api.MaxSteps), Values: takeValues(r, most)}
}

// put puts a course. The workers that have partitions tell who has which.
func (c *course) put(w *wire.Writer) {
	putNumbers(w, c.epoch, c.step, c.phase, c.many)
	agg.Put(w, c.before)
	agg.Put(w, c.gave)
	putNumbers(w, c.kept.step, c.kept.epoch)
	agg.Put(w, c.kept.before)
	has := plan.Workers(c.assigned)
	putList(w, has)
	for _, worker := range has {
		x, reported := c.heard[worker]
		w.Bool(reported)
		if reported {
			x.put(w)
		}
	}
}

func takeCourse(r *wire.Reader, parts int) *course {
	c := &course{epoch: r.Count(most), step: r.Count(api.MaxSteps), phase: r.Count(api.PhaseCollect), many: r.Count(most)}
	c.before, c.gave = agg.Take(r), agg.Take(r)
	c.kept = checkpoint{step: r.Count(api.MaxSteps), epoch: r.Count(most), before: agg.Take(r)}
	has := takeList(r)
	c.assigned = plan.Assign(parts, has)
	c.heard = map[int]report{}
	for _, worker := range has {
		if r.Bool() {
			c.heard[worker] = takeKept(r)
		}
	}
	return c
}

func (x report) put(w *wire.Writer) {
	w.Bool(x.failed)
	putNumbers(w, x.sent, x.active, x.many)
	agg.Put(w, x.agg)
	putValues(w, x.values)
}

func takeKept(r *wire.Reader) report {
	return report{failed: r.Bool(), sent: r.Count(most), active: r.Count(most), many: r.Count(most), agg: agg.Take(r), values: takeValues(r, most)}
}

// sound tells whether a master that was taken is as commands leave one: nothing that could go on waits.
func (m *Master) sound() bool {
	running := 0
	for _, j := range m.jobs {
		if j.state < api.Queued || j.state == api.Ended && j.outcome.Kind < api.Done {
			return false
		}
		if j.state == api.Running {
			running++
		}
	}
	if running > 1 || m.Open() > api.MaxQueue {
		return false
	}
	if m.course != nil {
		return m.course.sound(m)
	}
	return len(m.workers) == 0 || m.Open() == 0
}

// sound tells whether a course is as commands leave one at a master.
func (c *course) sound(m *Master) bool {
	if c.phase < api.PhaseLoad || c.epoch < 1 || c.epoch > m.epoch || !c.kept.sound(c) {
		return false
	}
	steps := m.jobs[c.id-1].spec.Steps
	if c.step > steps || c.step == steps && (c.phase == api.PhaseCompute || c.phase == api.PhaseClose) {
		return false
	}
	if len(c.assigned) == 0 {
		return len(m.workers) == 0
	}
	gone := func(worker int) bool {
		_, there := m.workers[worker]
		return !there
	}
	return !slices.ContainsFunc(c.assigned, gone) && !c.complete()
}

// sound tells whether a checkpoint is one that a course may have: none, or of a superstep and an epoch that it came through.
func (k checkpoint) sound(c *course) bool {
	if k.step == 0 {
		return k == checkpoint{}
	}
	return k.step%api.Keep == 0 && k.step <= c.step && k.epoch >= 1 && k.epoch <= c.epoch
}
