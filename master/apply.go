package master

import (
	"cohort/api"
	"cohort/run"
	"cohort/wire"
)

// Apply does a command.
func (m *Master) Apply(c api.Command) (api.Reply, api.Errno) {
	if m == nil {
		return api.Reply{}, api.ErrArg
	}
	switch c.Kind {
	case api.CmdSubmit:
		return m.request(c, func() api.Reply { return m.submit(c.S) })
	case api.CmdCancel:
		return m.request(c, func() api.Reply { return m.cancel(c.ID) })
	case api.CmdJoin:
		m.join(c.Worker, c.Life)
	case api.CmdLose:
		m.lose(c.Worker, c.Life)
	case api.CmdReport:
		m.hear(c.Report)
	default:
		return api.Reply{}, api.ErrCmd
	}
	return api.Reply{}, api.OK
}

// request does what a session asks for, once: what is told, now or then.
func (m *Master) request(c api.Command, do func() api.Reply) (api.Reply, api.Errno) {
	told, _, e := m.table().Do(c.Session, c.Seq, func() string { return textOf(do()) })
	if e != api.OK {
		return api.Reply{}, e
	}
	return replyOf(told), api.OK
}

// textOf is a reply as sessions keep it.
func textOf(a api.Reply) string {
	w := wire.NewWriter()
	w.Count(int(a.Err))
	w.Count(a.ID)
	return w.All()
}

func replyOf(told string) api.Reply {
	r := wire.NewReader(told)
	a := api.Reply{Err: api.Errno(r.Count(most)), ID: r.Count(most)}
	if r.End() != api.OK {
		return api.Reply{}
	}
	return a
}

func (m *Master) submit(s string) api.Reply {
	spec, e := run.DecodeJob(s)
	if e != api.OK {
		return api.Reply{Err: e}
	}
	if m.Open() >= api.MaxQueue || len(m.jobs) >= api.MaxJobs {
		return api.Reply{Err: api.ErrBusy}
	}
	m.jobs = append(m.jobs, job{spec: spec, state: api.Queued})
	id := len(m.jobs)
	m.goOn()
	return api.Reply{ID: id}
}

// cancel tells the number of a job that is open no more, too: it stays as it is.
func (m *Master) cancel(id int) api.Reply {
	if !m.knows(id) {
		return api.Reply{Err: api.ErrJob}
	}
	if m.jobs[id-1].open() {
		m.end(id, api.Cancelled, api.Outcome{})
	}
	return api.Reply{ID: id}
}

func (m *Master) join(worker, life int) {
	if worker < 0 || worker >= api.MaxWorkers {
		return
	}
	if was, there := m.workers[worker]; there {
		if was >= life {
			return
		}
		m.lose(worker, was)
	}
	if m.workers == nil {
		m.workers = map[int]int{}
	}
	m.workers[worker] = life
	m.goOn()
}

func (m *Master) lose(worker, life int) {
	if was, there := m.workers[worker]; !there || was != life {
		return
	}
	delete(m.workers, worker)
	if m.course.has(worker) {
		m.course.leave()
		m.goOn()
	}
}

func (m *Master) hear(r api.Report) {
	if !m.Wants(r) {
		return
	}
	m.course.heard[r.Worker] = keptOf(r)
	if m.course.complete() {
		m.endPhase()
	}
}
