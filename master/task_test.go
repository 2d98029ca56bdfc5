package master_test

import (
	"math"
	"slices"
	"testing"

	"cohort/api"
	"cohort/master"
)

// Promise 17.2: all that a task tells, in each phase.
func TestTask(t *testing.T) {
	j := spec(20, 50, 5)
	m := made(t, j, 3, 6, 10)
	does(t, m, lose(10, 1), join(10, 2))
	want := map[int]api.Task{
		3: {Job: 1, Epoch: 2, Phase: api.PhaseLoad, Parts: []int{0, 2, 4}, Assigned: []int{3, 6, 3, 6, 3}, Spec: j},
		6: {Job: 1, Epoch: 2, Phase: api.PhaseLoad, Parts: []int{1, 3}, Assigned: []int{3, 6, 3, 6, 3}, Spec: j},
	}
	all := func(what string, r api.Report) {
		t.Helper()
		for _, w := range []int{3, 6} {
			if got := of(t, m, w); !sameTask(got, want[w]) {
				t.Errorf("%s: worker %d is to do %v, not %v", what, w, got, want[w])
			}
		}
		idle(t, what+", others", m, 10, 0, 1, 2, 4, 5, 7, -1, 64, math.MaxInt, math.MinInt)
		for _, w := range []int{6, 3} {
			says(t, m, w, r)
		}
	}
	next := func(change func(x *api.Task)) {
		for w, x := range want {
			change(&x)
			want[w] = x
		}
	}
	all("to load", api.Report{Active: 1, Many: 1})
	next(func(x *api.Task) { x.Many = 2 })
	for step := range 6 {
		gave := gives(api.AggSum, int64(step+1))
		next(func(x *api.Task) { x.Step, x.Phase, x.Keep = step, api.PhaseCompute, step == 3 })
		all("to compute", api.Report{Agg: gave, Sent: 1})
		next(func(x *api.Task) { x.Phase = api.PhaseClose })
		r := api.Report{Active: 1, Many: 1 + step}
		if step == 5 {
			r.Active = 0
		}
		all("to close", r)
		sum := gives(api.AggSum, int64(2*step+2))
		next(func(x *api.Task) { x.Before, x.Many = sum, 2+2*step })
		if step == 3 {
			next(func(x *api.Task) { x.From, x.FromEpoch = 4, 2 })
		}
	}
	next(func(x *api.Task) { x.Step, x.Phase, x.Keep = 6, api.PhaseCollect, false })
	all("to collect", api.Report{})
	idle(t, "done", m, 3, 6)
}

// Promise 17.2: Keep tells whether Step and 1 is a multiple of Keep, in each phase.
func TestTaskKeep(t *testing.T) {
	m := made(t, spec(40, 9, 1), 0)
	for step := range 20 {
		for _, p := range []int{api.PhaseCompute, api.PhaseClose} {
			goes(t, m, step, p)
			if x := of(t, m, 0); x.Keep != (step == 3 || step == 7 || step == 11 || step == 15 || step == 19) {
				t.Errorf("superstep %d, phase %d: %v", step, p, x.Keep)
			}
		}
	}
	m = made(t, spec(40, 9, 1), 0)
	goes(t, m, 2, api.PhaseClose)
	says(t, m, 0, api.Report{})
	if x := of(t, m, 0); x.Phase != api.PhaseCollect || x.Step != 3 || !x.Keep {
		t.Errorf("to be collected: %v", x)
	}
}

// Promise 17.2: a worker that has reported has nothing to do until all have.
func TestTaskOnceReported(t *testing.T) {
	m := made(t, spec(40, 9, 3), 0, 1, 2)
	for _, w := range []int{1, 2, 0} {
		phase(t, "not yet", m, w, 1, 0, api.PhaseLoad)
		says(t, m, w, api.Report{Active: 1})
		if w != 0 {
			idle(t, "it has", m, w)
		}
	}
	for w := range 3 {
		phase(t, "all have", m, w, 1, 0, api.PhaseCompute)
	}
}

// Promise 17.2: a job in every state, and numbers that are none.
func TestStatus(t *testing.T) {
	m := made(t, spec(9, 9, 1), 0)
	for range 4 {
		more(t, m, spec(9, 9, 1))
	}
	stands(t, "running", m, runs(1, 0, 1))
	goes(t, m, 1, api.PhaseCompute)
	stands(t, "running", m, runs(1, 1, 1))
	says(t, m, 0, api.Report{})
	says(t, m, 0, api.Report{})
	says(t, m, 0, api.Report{Values: []api.Value{{ID: 4, V: 2}}})
	goes(t, m, 2, api.PhaseCompute)
	says(t, m, 0, api.Report{Sent: 10})
	asks(t, "the third one goes", m, cancel(2, 1, 3), api.Reply{ID: 3}, api.OK)
	goes(t, m, 3, api.PhaseClose)
	for _, k := range []*master.Master{m, again(t, "in every state", m)} {
		stands(t, "done", k, done(1, 2, api.Value{ID: 4, V: 2}))
		stands(t, "failed", k, failed(2, api.ErrQuota, 2))
		stands(t, "cancelled", k, cancelled(3))
		stands(t, "running", k, runs(4, 3, 4))
		stands(t, "waiting", k, waits(5))
		for _, id := range []int{0, 6, -1, math.MinInt, math.MaxInt, 64, 65} {
			if s, e := k.Status(id); e != api.ErrJob || !sameStatus(s, api.Status{}) {
				t.Errorf("%d: %v, error %d", id, s, e)
			}
			if j, ok := k.Spec(id); ok || !sameSpec(j, api.Job{}) {
				t.Errorf("%d: %v, %v", id, j, ok)
			}
		}
		list(t, "jobs", k.Jobs(), 1, 2, 3, 4, 5)
		if k.Open() != 2 || k.Epoch() != 4 {
			t.Errorf("%d are open, epoch %d", k.Open(), k.Epoch())
		}
	}
}

// Promise 17.2: a job as it was submitted, whatever came of it.
func TestSpec(t *testing.T) {
	l := []api.Job{spec(9, 8, 1), spec(7, 0, 16), {Program: "degree", Steps: 1, Parts: 1}, spec(2, api.MaxSent, 3)}
	m := made(t, l[0], 1)
	for _, j := range l[1:] {
		more(t, m, j)
	}
	hold := func(what string, k *master.Master) {
		t.Helper()
		for i, j := range l {
			if got, ok := k.Spec(i + 1); !ok || !sameSpec(got, j) {
				t.Errorf("%s: job %d is %v, %v, not %v", what, i+1, got, ok, j)
			}
		}
	}
	hold("submitted", m)
	says(t, m, 1, api.Report{})
	says(t, m, 1, api.Report{})
	says(t, m, 1, api.Report{Err: 1})
	asks(t, "one goes", m, cancel(2, 1, 4), api.Reply{ID: 4}, api.OK)
	stands(t, "in all states", m, runs(3, 0, 3))
	hold("in all states", m)
	hold("in all states, again", again(t, "in all states", m))
}

// Promises 17.1, 17.2, R2: what is handed in is as it was, and is not kept.
func TestHandedIn(t *testing.T) {
	m := made(t, spec(9, 9, 2), 0, 1)
	says(t, m, 0, api.Report{})
	says(t, m, 1, api.Report{})
	l := []api.Value{{ID: 9, V: 1}, {ID: 3, V: 2}}
	says(t, m, 1, api.Report{Values: l})
	if !slices.Equal(l, []api.Value{{ID: 9, V: 1}, {ID: 3, V: 2}}) {
		t.Errorf("the values became %v", l)
	}
	l[0], l[1] = api.Value{ID: 77, V: 77}, api.Value{ID: 78, V: 78}
	k := []api.Value{{ID: 5, V: 3}, {ID: 4, V: 4}}
	says(t, m, 0, api.Report{Values: k})
	if !slices.Equal(k, []api.Value{{ID: 5, V: 3}, {ID: 4, V: 4}}) {
		t.Errorf("the values became %v", k)
	}
	k[0], k[1] = api.Value{ID: 77, V: 77}, api.Value{ID: 78, V: 78}
	stands(t, "done", m, done(1, 0, api.Value{ID: 3, V: 2}, api.Value{ID: 4, V: 4}, api.Value{ID: 5, V: 3}, api.Value{ID: 9, V: 1}))
	alone := made(t, spec(9, 9, 1), 0)
	says(t, alone, 0, api.Report{})
	one := []api.Value{{ID: 6, V: 1}, {ID: 5, V: 1}}
	says(t, alone, 0, api.Report{Values: one})
	if one[0].ID != 6 {
		t.Errorf("the values became %v", one)
	}
	one[0].ID, one[1].ID = 88, 88
	stands(t, "done", alone, done(1, 0, api.Value{ID: 5, V: 1}, api.Value{ID: 6, V: 1}))
}

// spoil changes all that is in a job.
func spoil(j api.Job) {
	for i := range j.Graph.Vertices {
		for k := range j.Graph.Vertices[i].Edges {
			j.Graph.Vertices[i].Edges[k] = api.Edge{To: -99, Weight: -99}
		}
		j.Graph.Vertices[i].ID, j.Graph.Vertices[i].Value = -99, -99
	}
	for i := range j.Params {
		j.Params[i] = -99
	}
}

// Promise 17.2, R2: what is told is the caller's own.
func TestTold(t *testing.T) {
	m := made(t, spec(9, 9, 2), 0, 1)
	more(t, m, spec(9, 9, 2))
	says(t, m, 0, api.Report{})
	says(t, m, 1, api.Report{})
	says(t, m, 0, api.Report{Values: []api.Value{{ID: 1, V: 1}}})
	says(t, m, 1, api.Report{Values: []api.Value{{ID: 2, V: 2}}})
	before := m.Encode()
	x := of(t, m, 0)
	spoil(x.Spec)
	x.Parts[0], x.Assigned[0], x.Assigned[1] = 55, 56, 57
	j, _ := m.Spec(2)
	spoil(j)
	j, _ = m.Spec(1)
	spoil(j)
	s, _ := m.Status(1)
	s.Outcome.Values[0], s.Outcome.Values[1] = api.Value{}, api.Value{}
	m.Workers()[0], m.Jobs()[0] = 9, 9
	if m.Encode() != before {
		t.Error("once answers were changed, it is another one")
	}
	if x := of(t, m, 0); !sameSpec(x.Spec, spec(9, 9, 2)) {
		t.Errorf("its task is %v", x)
	}
	list(t, "partitions", of(t, m, 0).Assigned, 0, 1)
	list(t, "its own", of(t, m, 1).Parts, 1)
	list(t, "workers", m.Workers(), 0, 1)
	list(t, "jobs", m.Jobs(), 1, 2)
	stands(t, "done", m, done(1, 0, api.Value{ID: 1, V: 1}, api.Value{ID: 2, V: 2}))
}

// Promise 17.2: to ask changes nothing.
func TestAsking(t *testing.T) {
	m := made(t, spec(9, 9, 2), 0, 1)
	goes(t, m, 1, api.PhaseClose)
	before := m.Encode()
	for range 3 {
		for n := -2; n < 5; n++ {
			m.Task(n)
			m.Status(n)
			m.Spec(n)
			m.Life(n)
			m.Look(int64(n), n)
			m.Wants(api.Report{Job: 1, Epoch: 1, Step: 1, Phase: n, Worker: n})
		}
		m.Workers()
		m.Jobs()
		m.Open()
		m.Epoch()
	}
	if m.Encode() != before {
		t.Error("asking changed something")
	}
	x := of(t, m, 0)
	if y := of(t, m, 0); !sameTask(x, y) {
		t.Errorf("asked twice: %v, %v", x, y)
	}
}

// Promise 17.3: a nil master.
func TestNil(t *testing.T) {
	var m *master.Master
	for kind := -1; kind < 8; kind++ {
		c := submit(1, 1, text(spec(9, 9, 1)))
		c.Kind, c.ID, c.Life = kind, 1, 1
		asks(t, "a nil master", m, c, api.Reply{}, api.ErrArg)
	}
	for _, seq := range []int{0, 1, 2} {
		if a, ok, e := m.Look(1, seq); a != (api.Reply{}) || ok || e != api.ErrArg {
			t.Errorf("%v, %v, error %d", a, ok, e)
		}
	}
	for _, n := range []int{-1, 0, 1, 64} {
		if s, e := m.Status(n); !sameStatus(s, api.Status{}) || e != api.ErrArg {
			t.Errorf("%v, error %d", s, e)
		}
		if j, ok := m.Spec(n); ok || !sameSpec(j, api.Job{}) {
			t.Errorf("%v, %v", j, ok)
		}
		if m.Wants(api.Report{Job: n, Worker: n}) {
			t.Error("it wants a report")
		}
	}
	lacks(t, "a nil master", m, 0, 1)
	idle(t, "a nil master", m, 0, 1)
	list(t, "workers", m.Workers())
	list(t, "jobs", m.Jobs())
	if m.Open() != 0 || m.Epoch() != 0 || m.Encode() != "" {
		t.Errorf("%d are open, epoch %d, %q", m.Open(), m.Epoch(), m.Encode())
	}
}
