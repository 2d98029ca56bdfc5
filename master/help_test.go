package master_test

import (
	"math"
	"slices"
	"testing"

	"cohort/api"
	"cohort/graph"
	"cohort/master"
	"cohort/run"
	"cohort/wire"
)

const (
	least    = math.MinInt64
	greatest = math.MaxInt64
	most     = 1<<31 - 1 // the greatest number in bytes
)

// pair is 1 to 2.
func pair() api.Graph {
	return api.Graph{Vertices: []api.Vertex{{ID: 1, Value: 7, Edges: []api.Edge{{To: 2, Weight: 3}}}, {ID: 2, Value: -7}}}
}

// spec is a job with a parameter, of which one can tell by what it differs from others.
func spec(steps, sent, parts int) api.Job {
	return api.Job{Program: "labels", Graph: pair(), Params: []int64{5}, Steps: steps, Sent: sent, Parts: parts}
}

// text is the bytes of a job that may be.
func text(j api.Job) string {
	s, e := run.EncodeJob(j)
	if e != api.OK {
		panic(e)
	}
	return s
}

func submit(session int64, seq int, s string) api.Command {
	return api.Command{Kind: api.CmdSubmit, Session: session, Seq: seq, S: s}
}

func cancel(session int64, seq, id int) api.Command {
	return api.Command{Kind: api.CmdCancel, Session: session, Seq: seq, ID: id}
}

func join(worker, life int) api.Command {
	return api.Command{Kind: api.CmdJoin, Worker: worker, Life: life}
}

func lose(worker, life int) api.Command {
	return api.Command{Kind: api.CmdLose, Worker: worker, Life: life}
}

func reports(r api.Report) api.Command {
	return api.Command{Kind: api.CmdReport, Report: r}
}

// asks does a request, and holds what is told against what it must be.
func asks(t *testing.T, what string, m *master.Master, c api.Command, want api.Reply, e api.Errno) {
	t.Helper()
	if got, f := m.Apply(c); got != want || f != e {
		t.Errorf("%s: told %v with error %d, not %v with error %d", what, got, f, want, e)
	}
}

// does does commands that tell nothing.
func does(t *testing.T, m *master.Master, l ...api.Command) {
	t.Helper()
	for _, c := range l {
		asks(t, "a command that tells nothing", m, c, api.Reply{}, api.OK)
	}
}

// made is a master with workers in life 1, and a job, number 1, of session 1.
func made(t *testing.T, j api.Job, workers ...int) *master.Master {
	t.Helper()
	m := master.New()
	for _, w := range workers {
		does(t, m, join(w, 1))
	}
	asks(t, "a job", m, submit(1, 1, text(j)), api.Reply{ID: 1}, api.OK)
	return m
}

// more submits a job by the next request of session 1.
func more(t *testing.T, m *master.Master, j api.Job) {
	t.Helper()
	n := len(m.Jobs()) + 1
	asks(t, "one more job", m, submit(1, n, text(j)), api.Reply{ID: n}, api.OK)
}

// of is the task of a worker that has one.
func of(t *testing.T, m *master.Master, worker int) api.Task {
	t.Helper()
	x, ok := m.Task(worker)
	if !ok {
		t.Errorf("worker %d has nothing to do", worker)
	}
	return x
}

// answer is a report of a task, without anything that was done.
func answer(x api.Task, worker int) api.Report {
	return api.Report{Job: x.Job, Epoch: x.Epoch, Step: x.Step, Phase: x.Phase, Worker: worker}
}

// says reports for a worker, whatever it is to do, with what is handed in.
func says(t *testing.T, m *master.Master, worker int, r api.Report) {
	t.Helper()
	a := answer(of(t, m, worker), worker)
	r.Job, r.Epoch, r.Step, r.Phase, r.Worker = a.Job, a.Epoch, a.Step, a.Phase, a.Worker
	if !m.Wants(r) {
		t.Errorf("a report of worker %d is not wanted: %v", worker, r)
	}
	does(t, m, reports(r))
	if m.Wants(r) {
		t.Errorf("a report of worker %d is wanted again: %v", worker, r)
	}
}

// goes lets all workers of a job that runs report active vertices, until it is in a superstep and a phase.
func goes(t *testing.T, m *master.Master, step, phase int) {
	t.Helper()
	for range 10000 {
		for _, w := range m.Workers() {
			x, ok := m.Task(w)
			if ok && x.Step == step && x.Phase == phase {
				return
			}
			if ok {
				says(t, m, w, api.Report{Active: 1, Many: 1})
			}
		}
	}
	t.Fatalf("it never comes to superstep %d, phase %d", step, phase)
}

// stands holds a job's status against what it must be.
func stands(t *testing.T, what string, m *master.Master, want api.Status) {
	t.Helper()
	got, e := m.Status(want.ID)
	if e != api.OK || !sameStatus(got, want) {
		t.Errorf("%s: job %d stands at %v, error %d, not at %v", what, want.ID, got, e, want)
	}
}

func runs(id, step, epoch int) api.Status {
	return api.Status{ID: id, State: api.Running, Step: step, Epoch: epoch}
}

func waits(id int) api.Status { return api.Status{ID: id, State: api.Queued} }

func cancelled(id int) api.Status { return api.Status{ID: id, State: api.Cancelled} }

func failed(id int, e api.Errno, steps int) api.Status {
	return api.Status{ID: id, State: api.Ended, Outcome: api.Outcome{Kind: api.Failed, Err: e, Steps: steps}}
}

func done(id, steps int, l ...api.Value) api.Status {
	return api.Status{ID: id, State: api.Ended, Outcome: api.Outcome{Kind: api.Done, Steps: steps, Values: l}}
}

// phase holds what a worker is to do against a superstep, a phase and an epoch.
func phase(t *testing.T, what string, m *master.Master, worker, epoch, step, phase int) {
	t.Helper()
	x, ok := m.Task(worker)
	if !ok || x.Epoch != epoch || x.Step != step || x.Phase != phase {
		t.Errorf("%s: worker %d has %v in epoch %d, superstep %d, phase %d, not in %d, %d, %d", what, worker, ok, x.Epoch, x.Step, x.Phase, epoch, step, phase)
	}
}

// idle tells whether workers have nothing to do.
func idle(t *testing.T, what string, m *master.Master, workers ...int) {
	t.Helper()
	for _, w := range workers {
		if x, ok := m.Task(w); ok || !sameTask(x, api.Task{}) {
			t.Errorf("%s: worker %d is to do %v, %v", what, w, x, ok)
		}
	}
}

// list holds a list against what it must be; one that is empty and one that is nil are the same.
func list(t *testing.T, what string, got []int, want ...int) {
	t.Helper()
	if !slices.Equal(got, want) {
		t.Errorf("%s: %v, not %v", what, got, want)
	}
}

func sameStatus(a, b api.Status) bool {
	return a.ID == b.ID && a.State == b.State && a.Step == b.Step && a.Epoch == b.Epoch && sameOutcome(a.Outcome, b.Outcome)
}

func sameOutcome(a, b api.Outcome) bool {
	return a.Kind == b.Kind && a.Err == b.Err && a.Steps == b.Steps && slices.Equal(a.Values, b.Values)
}

func sameSpec(a, b api.Job) bool {
	return a.Program == b.Program && graph.Same(a.Graph, b.Graph) && slices.Equal(a.Params, b.Params) &&
		a.Steps == b.Steps && a.Sent == b.Sent && a.Parts == b.Parts
}

func sameTask(a, b api.Task) bool {
	return a.Job == b.Job && a.Epoch == b.Epoch && a.Step == b.Step && a.Phase == b.Phase &&
		slices.Equal(a.Parts, b.Parts) && slices.Equal(a.Assigned, b.Assigned) && sameSpec(a.Spec, b.Spec) &&
		a.Before == b.Before && a.Many == b.Many && a.From == b.From && a.FromEpoch == b.FromEpoch && a.Keep == b.Keep
}

func sameReport(a, b api.Report) bool {
	return a.Job == b.Job && a.Epoch == b.Epoch && a.Step == b.Step && a.Phase == b.Phase && a.Worker == b.Worker &&
		a.Err == b.Err && a.Sent == b.Sent && a.Active == b.Active && a.Many == b.Many && a.Agg == b.Agg && slices.Equal(a.Values, b.Values)
}

func sameCommand(a, b api.Command) bool {
	return a.Kind == b.Kind && a.Session == b.Session && a.Seq == b.Seq && a.S == b.S && a.ID == b.ID &&
		a.Worker == b.Worker && a.Life == b.Life && sameReport(a.Report, b.Report)
}

// gives is an aggregate with a value of one kind.
func gives(kind int, v int64) api.Aggregate {
	x := api.Aggregate{}
	x.Has[kind], x.V[kind] = true, v
	return x
}

func number(n int) string { return wire.Number(uint64(n)) }

func signed(n int64) string { return wire.Number(wire.Fold(n)) }

// row is numbers, one behind the other.
func row(l ...int) string {
	s := ""
	for _, n := range l {
		s += number(n)
	}
	return s
}

// again is the master of a master's bytes, which must have the same ones.
func again(t *testing.T, what string, m *master.Master) *master.Master {
	t.Helper()
	s := m.Encode()
	k, e := master.Decode(s)
	if e != api.OK || k == nil {
		t.Fatalf("%s: %q is no master: error %d", what, s, e)
	}
	if k.Encode() != s || m.Encode() != s {
		t.Fatalf("%s: %q is encoded as %q, and %q", what, s, k.Encode(), m.Encode())
	}
	return k
}
