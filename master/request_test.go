package master_test

import (
	"math"
	"testing"

	"cohort/api"
	"cohort/master"
	"cohort/run"
)

// Promise 17.1, the example: a worker joins, a job is submitted: it begins in epoch 1, and the worker is to load all partitions.
func TestExample(t *testing.T) {
	m := master.New()
	does(t, m, join(0, 1))
	asks(t, "a job", m, submit(1, 1, text(spec(9, 9, 3))), api.Reply{ID: 1}, api.OK)
	x := of(t, m, 0)
	if x.Epoch != 1 || x.Phase != api.PhaseLoad {
		t.Errorf("it is to do %v", x)
	}
	list(t, "partitions", x.Parts, 0, 1, 2)
}

// Promise 17.1: a master that knows nothing, made by New or by nobody.
func TestNew(t *testing.T) {
	for _, m := range []*master.Master{master.New(), {}} {
		list(t, "workers", m.Workers())
		list(t, "jobs", m.Jobs())
		if m.Open() != 0 || m.Epoch() != 0 {
			t.Errorf("%d jobs are open, epoch %d", m.Open(), m.Epoch())
		}
		if a, ok, e := m.Look(1, 1); a != (api.Reply{}) || ok || e != api.OK {
			t.Errorf("told %v, %v, error %d", a, ok, e)
		}
		if _, e := m.Status(1); e != api.ErrJob {
			t.Errorf("error %d", e)
		}
		idle(t, "new", m, 0, 1)
		again(t, "new", m)
	}
	if (&master.Master{}).Encode() != master.New().Encode() {
		t.Error("one that nobody made by New has other bytes")
	}
	m := &master.Master{}
	does(t, m, lose(0, 1), reports(api.Report{}), join(0, 1))
	asks(t, "a job", m, submit(1, 1, text(spec(9, 9, 1))), api.Reply{ID: 1}, api.OK)
	phase(t, "made by nobody", m, 0, 1, 0, api.PhaseLoad)
}

// Promise 17.1: another Kind is no command, and does nothing.
func TestOtherKinds(t *testing.T) {
	m := made(t, spec(9, 9, 1), 0)
	before := m.Encode()
	for _, kind := range []int{0, 6, 7, 100, -1, -5, math.MinInt, math.MaxInt} {
		c := submit(1, 2, text(spec(9, 9, 1)))
		c.Kind, c.ID, c.Worker, c.Life, c.Report = kind, 1, 1, 1, answer(of(t, m, 0), 0)
		asks(t, "another kind", m, c, api.Reply{}, api.ErrCmd)
	}
	if m.Encode() != before {
		t.Error("another kind did something")
	}
}

// Promise 17.1: a command does what is of its kind alone, whatever stands beside it.
func TestKindAlone(t *testing.T) {
	all := func(kind int) api.Command {
		return api.Command{Kind: kind, Session: 2, Seq: 1, S: text(spec(9, 9, 1)), ID: 1, Worker: 5, Life: 1,
			Report: api.Report{Job: 1, Epoch: 1, Phase: api.PhaseLoad, Active: 1}}
	}
	m := made(t, spec(9, 9, 1), 0)
	asks(t, "submit", m, all(api.CmdSubmit), api.Reply{ID: 2}, api.OK)
	list(t, "workers", m.Workers(), 0)
	stands(t, "submit", m, runs(1, 0, 1))
	phase(t, "submit", m, 0, 1, 0, api.PhaseLoad)
	does(t, m, all(api.CmdJoin))
	list(t, "workers", m.Workers(), 0, 5)
	list(t, "jobs", m.Jobs(), 1, 2)
	phase(t, "join", m, 0, 1, 0, api.PhaseLoad)
	does(t, m, all(api.CmdReport))
	list(t, "workers", m.Workers(), 0, 5)
	phase(t, "report", m, 0, 1, 0, api.PhaseCompute)
	does(t, m, all(api.CmdLose))
	list(t, "workers", m.Workers(), 0)
	stands(t, "lose", m, runs(1, 0, 1))
	c := all(api.CmdCancel)
	c.Seq = 2
	asks(t, "cancel", m, c, api.Reply{ID: 1}, api.OK)
	list(t, "workers", m.Workers(), 0)
	list(t, "jobs", m.Jobs(), 1, 2)
	stands(t, "cancel", m, cancelled(1))
	stands(t, "cancel", m, runs(2, 0, 2))
}

// Promise 17.1: bytes that are no job are told run's error, as what the request was told, and there is no job.
func TestSubmitNoJob(t *testing.T) {
	good := text(spec(9, 9, 1))
	l := []string{"", "no job", "\x00", good[:len(good)-1], good + "\x00", "\xff" + good, "\x80\x00" + good}
	m := master.New()
	does(t, m, join(0, 1))
	kinds := map[api.Errno]bool{}
	for i, s := range l {
		_, e := run.DecodeJob(s)
		if e == api.OK {
			t.Fatalf("%q is a job", s)
		}
		kinds[e] = true
		asks(t, "no job", m, submit(1, i+1, s), api.Reply{Err: e}, api.OK)
		asks(t, "no job, once more", m, submit(1, i+1, good), api.Reply{Err: e}, api.OK)
		if a, ok, f := m.Look(1, i+1); a != (api.Reply{Err: e}) || !ok || f != api.OK {
			t.Errorf("%q: %v, %v, error %d", s, a, ok, f)
		}
		list(t, "jobs", m.Jobs())
		idle(t, "no job", m, 0)
		again(t, "no job", m)
	}
	for _, e := range []api.Errno{api.ErrCut, api.ErrMore} {
		if !kinds[e] {
			t.Errorf("no bytes with error %d: %v", e, kinds)
		}
	}
	asks(t, "a job behind these", m, submit(1, len(l)+1, good), api.Reply{ID: 1}, api.OK)
	if m.Epoch() != 1 || m.Open() != 1 {
		t.Errorf("epoch %d, %d are open", m.Epoch(), m.Open())
	}
}

// Promise 17.1: of run's errors those of Check, too.
func TestSubmitBadJob(t *testing.T) {
	m := master.New()
	for i, x := range []struct {
		s string
		e api.Errno
	}{
		{"\x04none\x00\x00\x01\x00\x01", api.ErrProgram},
		{"\x06degree\x02\x04\x00\x00\x02\x00\x00\x00\x01\x00\x01", api.ErrVertex},
		{"\x06degree\x01\x04\x00\x01\x02\x00\x00\x01\x00\x01", api.ErrEdge},
		{"\x06degree\x00\x01\x01\x01\x00\x01", api.ErrParams},
		{"\x06degree\x00\x00\x00\x00\x01", api.ErrLimit},
	} {
		asks(t, "a job that may not be", m, submit(-9, i+1, x.s), api.Reply{Err: x.e}, api.OK)
	}
	list(t, "jobs", m.Jobs())
}

// Promise 17.1: one more than MaxQueue that wait or run is told ErrBusy, with workers and without; when one is open no more, there is room again.
func TestSubmitQueue(t *testing.T) {
	for _, workers := range [][]int{nil, {3}} {
		m := made(t, spec(9, 9, 1), workers...)
		for range api.MaxQueue - 1 {
			more(t, m, spec(9, 9, 1))
		}
		if m.Open() != api.MaxQueue || m.Epoch() != len(workers) {
			t.Errorf("%d are open, epoch %d", m.Open(), m.Epoch())
		}
		s := text(spec(9, 9, 1))
		asks(t, "one more", m, submit(1, 9, s), api.Reply{Err: api.ErrBusy}, api.OK)
		asks(t, "one more, of another session", m, submit(2, 1, s), api.Reply{Err: api.ErrBusy}, api.OK)
		asks(t, "no job, where it is full", m, submit(2, 2, "no"), api.Reply{Err: api.ErrCut}, api.OK)
		list(t, "jobs", m.Jobs(), 1, 2, 3, 4, 5, 6, 7, 8)
		asks(t, "the last one goes", m, cancel(2, 3, 8), api.Reply{ID: 8}, api.OK)
		asks(t, "the same request, where there is room", m, submit(1, 9, s), api.Reply{Err: api.ErrBusy}, api.OK)
		asks(t, "the next request", m, submit(1, 10, s), api.Reply{ID: 9}, api.OK)
		asks(t, "full again", m, submit(1, 11, s), api.Reply{Err: api.ErrBusy}, api.OK)
		if m.Open() != api.MaxQueue || len(m.Jobs()) != 9 {
			t.Errorf("%d are open, %v", m.Open(), m.Jobs())
		}
	}
}

// Promise 17.1: where there were MaxJobs, however they ended, one more is told ErrBusy.
func TestSubmitMaxJobs(t *testing.T) {
	m := master.New()
	s := text(spec(9, 9, 1))
	seq := 0
	next := func() int {
		seq++
		return seq
	}
	for id := 1; id <= api.MaxJobs; id++ {
		asks(t, "a job", m, submit(1, next(), s), api.Reply{ID: id}, api.OK)
		if id < api.MaxJobs {
			asks(t, "it goes", m, cancel(1, next(), id), api.Reply{ID: id}, api.OK)
		}
	}
	asks(t, "one more", m, submit(1, next(), s), api.Reply{Err: api.ErrBusy}, api.OK)
	asks(t, "the last one goes", m, cancel(1, next(), api.MaxJobs), api.Reply{ID: api.MaxJobs}, api.OK)
	if m.Open() != 0 || len(m.Jobs()) != api.MaxJobs {
		t.Errorf("%d are open, of %d", m.Open(), len(m.Jobs()))
	}
	asks(t, "one more, where none is open", m, submit(1, next(), s), api.Reply{Err: api.ErrBusy}, api.OK)
	asks(t, "no job", m, submit(1, next(), "no"), api.Reply{Err: api.ErrCut}, api.OK)
	if len(again(t, "all jobs", m).Jobs()) != api.MaxJobs {
		t.Error("not all jobs are there again")
	}
}

// Promises 17.1, 17.2: the same request again is told the same and does nothing; an earlier one, one out of turn and others that may not be are told sess's errors.
func TestRequestsOnce(t *testing.T) {
	m := made(t, spec(9, 9, 1))
	s := text(spec(9, 9, 1))
	asks(t, "the same", m, submit(1, 1, s), api.Reply{ID: 1}, api.OK)
	asks(t, "the same, with other bytes", m, submit(1, 1, "no"), api.Reply{ID: 1}, api.OK)
	asks(t, "the same, of another kind", m, cancel(1, 1, 1), api.Reply{ID: 1}, api.OK)
	asks(t, "the same, to cancel none", m, cancel(1, 1, 9), api.Reply{ID: 1}, api.OK)
	stands(t, "asked once", m, waits(1))
	list(t, "jobs", m.Jobs(), 1)
	asks(t, "the next one", m, submit(1, 2, s), api.Reply{ID: 2}, api.OK)
	before := m.Encode()
	for _, x := range []struct {
		session int64
		seq     int
		e       api.Errno
	}{
		{1, 1, api.ErrOld}, {1, 4, api.ErrGap}, {1, math.MaxInt, api.ErrGap}, {1, 0, api.ErrArg}, {1, -1, api.ErrArg}, {1, math.MinInt, api.ErrArg},
		{2, 2, api.ErrGap}, {2, 0, api.ErrArg}, {-1, 3, api.ErrGap},
	} {
		asks(t, "to submit", m, submit(x.session, x.seq, s), api.Reply{}, x.e)
		asks(t, "to submit no job", m, submit(x.session, x.seq, "no"), api.Reply{}, x.e)
		asks(t, "to cancel", m, cancel(x.session, x.seq, 1), api.Reply{}, x.e)
		asks(t, "to cancel none", m, cancel(x.session, x.seq, 7), api.Reply{}, x.e)
		if a, ok, e := m.Look(x.session, x.seq); a != (api.Reply{}) || ok || e != x.e {
			t.Errorf("session %d, %d: %v, %v, error %d, not %d", x.session, x.seq, a, ok, e, x.e)
		}
	}
	if m.Encode() != before {
		t.Error("a request with an error did something")
	}
	if a, ok, e := m.Look(1, 3); a != (api.Reply{}) || ok || e != api.OK {
		t.Errorf("the next one: %v, %v, error %d", a, ok, e)
	}
	if a, ok, e := m.Look(1, 2); a != (api.Reply{ID: 2}) || !ok || e != api.OK {
		t.Errorf("the last one: %v, %v, error %d", a, ok, e)
	}
}

// Promise 17.1: one session more than there may be.
func TestRequestsOfTooMany(t *testing.T) {
	m := master.New()
	for i := range int64(api.MaxSessions) {
		asks(t, "a session", m, cancel(i*i-100, 1, 1), api.Reply{Err: api.ErrJob}, api.OK)
	}
	asks(t, "one more", m, submit(greatest, 1, text(spec(9, 9, 1))), api.Reply{}, api.ErrMany)
	asks(t, "one more, to cancel", m, cancel(least, 1, 1), api.Reply{}, api.ErrMany)
	if _, ok, e := m.Look(least, 1); ok || e != api.ErrMany {
		t.Errorf("%v, error %d", ok, e)
	}
	list(t, "jobs", m.Jobs())
	asks(t, "one that is there", m, submit(-100, 2, text(spec(9, 9, 1))), api.Reply{ID: 1}, api.OK)
	again(t, "all sessions", m)
}

// Promise 17.1: to cancel a job that is Queued, one that is Running, and what begins behind it.
func TestCancel(t *testing.T) {
	m := made(t, spec(9, 9, 2), 0, 1)
	more(t, m, spec(8, 8, 1))
	more(t, m, spec(7, 7, 1))
	more(t, m, spec(6, 6, 1))
	asks(t, "one that waits", m, cancel(2, 1, 2), api.Reply{ID: 2}, api.OK)
	stands(t, "one that waits", m, cancelled(2))
	stands(t, "the one that runs", m, runs(1, 0, 1))
	if m.Open() != 3 || m.Epoch() != 1 {
		t.Errorf("%d are open, epoch %d", m.Open(), m.Epoch())
	}
	goes(t, m, 5, api.PhaseClose)
	asks(t, "one that runs", m, cancel(2, 2, 1), api.Reply{ID: 1}, api.OK)
	stands(t, "one that runs", m, cancelled(1))
	stands(t, "what begins behind it", m, runs(3, 0, 2))
	stands(t, "what waits behind that", m, waits(4))
	phase(t, "behind it", m, 0, 2, 0, api.PhaseLoad)
	idle(t, "one without a partition", m, 1)
	if x := of(t, m, 0); x.Job != 3 || x.From != 0 || x.FromEpoch != 0 || x.Many != 0 || x.Before != (api.Aggregate{}) || x.Spec.Steps != 7 {
		t.Errorf("it begins as %v", x)
	}
	asks(t, "the next", m, cancel(2, 3, 3), api.Reply{ID: 3}, api.OK)
	asks(t, "the last", m, cancel(2, 4, 4), api.Reply{ID: 4}, api.OK)
	idle(t, "nothing runs", m, 0, 1)
	if m.Open() != 0 || m.Epoch() != 3 {
		t.Errorf("%d are open, epoch %d", m.Open(), m.Epoch())
	}
	list(t, "jobs", m.Jobs(), 1, 2, 3, 4)
}

// Promise 17.1: to cancel a job that runs without partitions, and one while there are no workers: nothing begins.
func TestCancelWithoutWorkers(t *testing.T) {
	m := made(t, spec(9, 9, 2), 0)
	more(t, m, spec(9, 9, 2))
	more(t, m, spec(9, 9, 2))
	does(t, m, lose(0, 1))
	asks(t, "one that waits", m, cancel(3, 1, 2), api.Reply{ID: 2}, api.OK)
	asks(t, "one that runs", m, cancel(3, 2, 1), api.Reply{ID: 1}, api.OK)
	stands(t, "one that runs", m, cancelled(1))
	stands(t, "one that waits", m, cancelled(2))
	stands(t, "one that waits on", m, waits(3))
	does(t, m, join(0, 2))
	stands(t, "what begins", m, runs(3, 0, 2))
}

// Promise 17.1: to cancel what has ended, and what is Cancelled: its number, and it stays; what is none: ErrJob.
func TestCancelWhatIsOver(t *testing.T) {
	m := made(t, spec(9, 9, 1), 0)
	more(t, m, spec(9, 9, 1))
	more(t, m, spec(9, 9, 1))
	says(t, m, 0, api.Report{})
	says(t, m, 0, api.Report{Values: []api.Value{{ID: 1, V: 2}}})
	want := done(1, 0, api.Value{ID: 1, V: 2})
	stands(t, "done", m, want)
	says(t, m, 0, api.Report{Err: 1})
	stands(t, "failed", m, failed(2, api.ErrOverflow, 0))
	asks(t, "done", m, cancel(5, 1, 1), api.Reply{ID: 1}, api.OK)
	asks(t, "failed", m, cancel(5, 2, 2), api.Reply{ID: 2}, api.OK)
	asks(t, "running", m, cancel(5, 3, 3), api.Reply{ID: 3}, api.OK)
	asks(t, "cancelled", m, cancel(5, 4, 3), api.Reply{ID: 3}, api.OK)
	stands(t, "done", m, want)
	stands(t, "failed", m, failed(2, api.ErrOverflow, 0))
	stands(t, "cancelled", m, cancelled(3))
	for i, id := range []int{0, -1, 4, 5, 64, 65, math.MinInt, math.MaxInt} {
		asks(t, "none", m, cancel(5, 5+i, id), api.Reply{Err: api.ErrJob}, api.OK)
	}
	asks(t, "none, of none", master.New(), cancel(0, 1, 1), api.Reply{Err: api.ErrJob}, api.OK)
}
