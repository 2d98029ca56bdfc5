package master_test

import (
	"math"
	"testing"

	"cohort/api"
	"cohort/master"
)

// Promises 17.1, 17.2: only a report of the job that runs, of its epoch, superstep and phase, by a worker that has a partition and has not reported, is wanted; others do nothing.
func TestWants(t *testing.T) {
	m := made(t, spec(20, 99, 2), 0, 1, 2)
	does(t, m, lose(0, 1), join(0, 2))
	more(t, m, spec(20, 99, 2))
	goes(t, m, 5, api.PhaseCompute)
	right := answer(of(t, m, 2), 2)
	right.Active, right.Many = 1, 2
	if right.Job != 1 || right.Epoch != 2 || right.Step != 5 || right.Phase != api.PhaseCompute {
		t.Fatalf("the right one is %v", right)
	}
	changes := map[string]func(r *api.Report, n int){
		"job":       func(r *api.Report, n int) { r.Job += n },
		"epoch":     func(r *api.Report, n int) { r.Epoch += n },
		"superstep": func(r *api.Report, n int) { r.Step += n },
		"phase":     func(r *api.Report, n int) { r.Phase += n },
		"worker":    func(r *api.Report, n int) { r.Worker = 20 + n },
	}
	before := m.Encode()
	for what, change := range changes {
		for _, n := range []int{1, -1, 2, -2, 100, -100, 1 << 40, math.MinInt, math.MaxInt - 20} {
			r := right
			change(&r, n)
			if m.Wants(r) {
				t.Errorf("of another %s: %v is wanted", what, r)
			}
			does(t, m, reports(r))
		}
	}
	unasked := right
	unasked.Worker = 0
	if m.Wants(unasked) {
		t.Error("of a worker without partitions it is wanted")
	}
	does(t, m, reports(unasked))
	if m.Encode() != before {
		t.Error("a report that is not wanted did something")
	}
	if !m.Wants(right) || m.Encode() != before {
		t.Error("the right one is not wanted, or asking did something")
	}
	does(t, m, reports(right))
	before = m.Encode()
	right.Err, right.Sent = api.ErrOverflow, 1000
	if m.Wants(right) {
		t.Error("of one that has reported it is wanted")
	}
	does(t, m, reports(right))
	if m.Encode() != before {
		t.Error("a second report did something")
	}
	right.Worker, right.Err, right.Sent = 1, api.OK, 0
	does(t, m, reports(right))
	phase(t, "all have reported", m, 1, 2, 5, api.PhaseClose)
	if m.Wants(right) {
		t.Error("of a phase that is over it is wanted")
	}
}

// Promise 17.1: what a job goes through: load, compute and close by turns, collect.
func TestPhases(t *testing.T) {
	m := made(t, spec(9, 9, 2), 4, 5)
	both := func(r api.Report) {
		says(t, m, 5, r)
		idle(t, "it has reported", m, 5)
		says(t, m, 4, r)
	}
	for step := range 3 {
		if step == 0 {
			phase(t, "at first", m, 4, 1, 0, api.PhaseLoad)
			both(api.Report{Active: 1, Many: 1})
		}
		phase(t, "compute", m, 4, 1, step, api.PhaseCompute)
		stands(t, "compute", m, runs(1, step, 1))
		both(api.Report{Sent: 4})
		phase(t, "close", m, 4, 1, step, api.PhaseClose)
		stands(t, "close", m, runs(1, step, 1))
		active := 1
		if step == 2 {
			active = 0
		}
		both(api.Report{Active: active, Many: 1})
	}
	phase(t, "collect", m, 5, 1, 3, api.PhaseCollect)
	stands(t, "collect", m, runs(1, 3, 1))
	says(t, m, 4, api.Report{Values: []api.Value{{ID: 2, V: 20}, {ID: -4, V: 40}}})
	stands(t, "one of two", m, runs(1, 3, 1))
	says(t, m, 5, api.Report{Values: []api.Value{{ID: 3, V: 30}, {ID: 1, V: 10}}})
	stands(t, "done", m, done(1, 3, api.Value{ID: -4, V: 40}, api.Value{ID: 1, V: 10}, api.Value{ID: 2, V: 20}, api.Value{ID: 3, V: 30}))
	idle(t, "done", m, 4, 5)
	if m.Open() != 0 || m.Epoch() != 1 {
		t.Errorf("%d are open, epoch %d", m.Open(), m.Epoch())
	}
}

// Promise 17.1: it is enough that one vertex of one worker is active.
func TestActive(t *testing.T) {
	for _, p := range []int{api.PhaseLoad, api.PhaseClose} {
		for _, x := range []struct{ a, b, want int }{
			{0, 0, api.PhaseCollect}, {1, 0, api.PhaseCompute}, {0, 1, api.PhaseCompute}, {5, 7, api.PhaseCompute}, {math.MaxInt, 1, api.PhaseCompute},
		} {
			m := made(t, spec(9, 9, 2), 0, 1)
			goes(t, m, 0, p)
			says(t, m, 0, api.Report{Active: x.a})
			says(t, m, 1, api.Report{Active: x.b})
			step := 0
			if p == api.PhaseClose {
				step = 1
			}
			phase(t, "on", m, 0, 1, step, x.want)
		}
	}
}

// Promise 17.1: a report with an error, in whatever phase, by whatever worker: ErrOverflow, once all have reported.
func TestErrorOfAReport(t *testing.T) {
	for p := api.PhaseLoad; p <= api.PhaseCollect; p++ {
		for _, e := range []api.Errno{api.ErrOverflow, api.ErrArg, api.ErrQuota, api.ErrSteps, 1000000, -1} {
			for bad := range 3 {
				m := made(t, spec(9, 9, 3), 0, 1, 2)
				more(t, m, spec(8, 9, 1))
				step := enterPhase(t, m, p)
				for w := range 3 {
					stands(t, "not all have reported", m, runs(1, step, 1))
					r := api.Report{Active: 1, Many: 1, Sent: 100}
					if w == bad {
						r.Err = e
					}
					says(t, m, w, r)
				}
				stands(t, "all have reported", m, failed(1, api.ErrOverflow, step))
				stands(t, "the next one", m, runs(2, 0, 2))
			}
		}
	}
}

// enterPhase lets a job with at least 4 supersteps come to a phase: the superstep.
func enterPhase(t *testing.T, m *master.Master, p int) int {
	t.Helper()
	switch p {
	case api.PhaseLoad:
		return 0
	case api.PhaseCollect:
		goes(t, m, 2, api.PhaseClose)
		for _, w := range m.Workers() {
			if _, ok := m.Task(w); ok {
				says(t, m, w, api.Report{})
			}
		}
		return 3
	}
	goes(t, m, 3, p)
	return 3
}

// Promise 17.1: aggregates whose sum has no room, in whatever phase: ErrOverflow.
func TestAggregatesWithoutRoom(t *testing.T) {
	for p := api.PhaseLoad; p <= api.PhaseCollect; p++ {
		for _, x := range []struct {
			a, b int64
			ok   bool
		}{
			{greatest, 1, false}, {1, greatest, false}, {least, -1, false}, {greatest, greatest, false},
			{greatest, 0, true}, {greatest, least, true}, {greatest - 1, 1, true},
		} {
			m := made(t, spec(9, 9, 2), 0, 1)
			step := enterPhase(t, m, p)
			says(t, m, 1, api.Report{Active: 1, Agg: gives(api.AggSum, x.a)})
			says(t, m, 0, api.Report{Active: 1, Agg: gives(api.AggSum, x.b)})
			s, _ := m.Status(1)
			bad := s.State == api.Ended && s.Outcome.Kind == api.Failed
			if bad == x.ok {
				t.Errorf("phase %d, %d and %d: %v", p, x.a, x.b, s)
			}
			if !x.ok {
				stands(t, "without room", m, failed(1, api.ErrOverflow, step))
			}
		}
	}
	m := made(t, spec(9, 0, 2), 0, 1)
	goes(t, m, 0, api.PhaseCompute)
	says(t, m, 0, api.Report{Sent: 1, Agg: gives(api.AggSum, greatest)})
	says(t, m, 1, api.Report{Sent: 1, Agg: gives(api.AggSum, greatest)})
	stands(t, "too many were sent, too", m, failed(1, api.ErrOverflow, 0))
	m = made(t, spec(9, 9, 2), 0, 1)
	goes(t, m, 0, api.PhaseCompute)
	says(t, m, 0, api.Report{Agg: gives(api.AggMax, greatest)})
	says(t, m, 1, api.Report{Agg: gives(api.AggMax, greatest)})
	stands(t, "no sums", m, runs(1, 0, 1))
}

// Promise 17.1: more messages in all than Sent, in PhaseCompute alone: ErrQuota.
func TestQuota(t *testing.T) {
	for _, x := range []struct {
		quota, a, b int
		ok          bool
	}{
		{9, 5, 4, true}, {9, 5, 5, false}, {9, 10, 0, false}, {9, 0, 10, false}, {9, 9, 0, true}, {0, 0, 0, true}, {0, 0, 1, false},
		{api.MaxSent, api.MaxSent, 0, true}, {api.MaxSent, api.MaxSent, 1, false}, {9, math.MaxInt, math.MaxInt, false}, {9, most, most, false},
	} {
		m := made(t, spec(9, x.quota, 2), 0, 1)
		goes(t, m, 3, api.PhaseCompute)
		says(t, m, 0, api.Report{Sent: x.a})
		says(t, m, 1, api.Report{Sent: x.b})
		if x.ok {
			phase(t, "as many as may be", m, 0, 1, 3, api.PhaseClose)
		} else {
			stands(t, "too many", m, failed(1, api.ErrQuota, 3))
		}
	}
	for _, p := range []int{api.PhaseLoad, api.PhaseClose, api.PhaseCollect} {
		m := made(t, spec(9, 0, 1), 0)
		enterPhase(t, m, p)
		says(t, m, 0, api.Report{Sent: 5, Active: 1})
		if s, _ := m.Status(1); s.Outcome.Kind == api.Failed {
			t.Errorf("phase %d: %v", p, s)
		}
	}
}

// Promise 17.1: as many supersteps as Steps, and a vertex is active still: ErrSteps; if none is, it is collected.
func TestSteps(t *testing.T) {
	for _, steps := range []int{1, 2, 4, 5, 8} {
		m := made(t, spec(steps, 9, 1), 0)
		goes(t, m, steps-1, api.PhaseClose)
		k := again(t, "ahead of the end", m)
		says(t, m, 0, api.Report{Active: 1})
		stands(t, "active still", m, failed(1, api.ErrSteps, steps))
		says(t, k, 0, api.Report{})
		phase(t, "none is active", k, 0, 1, steps, api.PhaseCollect)
		does(t, k, join(0, 2))
		phase(t, "again, at the end or ahead of it", k, 0, 2, steps/4*4, api.PhaseLoad)
		again(t, "again", k)
	}
	m := made(t, spec(1, 9, 1), 0)
	says(t, m, 0, api.Report{Active: 1})
	phase(t, "the first of one", m, 0, 1, 0, api.PhaseCompute)
	m = made(t, spec(4, 9, 1), 0)
	goes(t, m, 3, api.PhaseClose)
	says(t, m, 0, api.Report{})
	does(t, m, join(0, 2))
	phase(t, "from a checkpoint at the end", m, 0, 2, 4, api.PhaseLoad)
	says(t, m, 0, api.Report{Active: 1})
	stands(t, "active, whoever says so", m, failed(1, api.ErrSteps, 4))
}

// Promises 17.1, 17.2: the aggregate of PhaseCompute is that of the superstep ahead once PhaseClose is over, not sooner.
func TestBefore(t *testing.T) {
	m := made(t, spec(20, 9, 3), 0, 1, 2)
	all := func(l [3]api.Aggregate) {
		for w, x := range l {
			says(t, m, w, api.Report{Active: 1, Many: 1, Agg: x})
		}
	}
	before := func(what string, want api.Aggregate) {
		t.Helper()
		for w := range 3 {
			if got := of(t, m, w).Before; got != want {
				t.Errorf("%s: worker %d has %v ahead, not %v", what, w, got, want)
			}
		}
	}
	none := api.Aggregate{}
	loud := [3]api.Aggregate{gives(api.AggOr, 64), gives(api.AggMin, -5), gives(api.AggSum, 9)}
	all(loud) // PhaseLoad: nobody asks for its aggregate
	before("the first superstep", none)
	all([3]api.Aggregate{gives(api.AggSum, 3), none, gives(api.AggSum, -10)})
	before("while it is closed", none)
	all(loud)
	before("the second one", gives(api.AggSum, -7))
	all([3]api.Aggregate{none, gives(api.AggMax, 8), none})
	before("while that is closed", gives(api.AggSum, -7))
	all(loud)
	before("the third one", gives(api.AggMax, 8))
	all([3]api.Aggregate{})
	all(loud)
	before("the fourth one, behind nothing", none)
	mixed := gives(api.AggMin, -2)
	mixed.Has[api.AggOr], mixed.V[api.AggOr] = true, 7
	all([3]api.Aggregate{gives(api.AggOr, 3), mixed, gives(api.AggMin, 4)})
	all(loud)
	before("the fifth one", mixed)
	does(t, m, lose(2, 1))
	for w := range 2 {
		if x := of(t, m, w); x.Before != mixed || x.Step != 4 || x.From != 4 || x.FromEpoch != 1 {
			t.Errorf("again from the checkpoint: %v", x)
		}
	}
	// What stands in an aggregate that has no such value is nothing.
	odd := api.Aggregate{}
	odd.V[api.AggSum] = 77
	for w := range 2 {
		says(t, m, w, api.Report{Active: 1, Agg: odd})
	}
	for w := range 2 {
		says(t, m, w, api.Report{Agg: odd})
	}
	for w := range 2 {
		says(t, m, w, api.Report{Active: 1})
	}
	if x := of(t, m, 0); x.Before != none || x.Step != 5 {
		t.Errorf("behind an odd one: %v", x)
	}
}

// Promises 17.1, 17.2: how many vertices there are, as the last reports of PhaseLoad and PhaseClose have it in all.
func TestMany(t *testing.T) {
	m := made(t, spec(20, 9, 2), 0, 1)
	many := func(what string, want int) {
		t.Helper()
		if got := of(t, m, 1).Many; got != want {
			t.Errorf("%s: %d vertices, not %d", what, got, want)
		}
	}
	both := func(a, b int) {
		says(t, m, 0, api.Report{Active: 1, Many: a})
		says(t, m, 1, api.Report{Active: 1, Many: b})
	}
	both(3, 4)
	many("loaded", 7)
	both(100, 100)
	many("computed", 7)
	both(0, 5)
	many("closed", 5)
	both(50, 50)
	many("computed", 5)
	says(t, m, 0, api.Report{Many: 2})
	says(t, m, 1, api.Report{Many: 1})
	phase(t, "closed", m, 0, 1, 2, api.PhaseCollect)
	many("to be collected", 3)
	m = made(t, spec(20, 9, 2), 0, 1)
	both(math.MaxInt, math.MaxInt)
	if got := of(t, m, 0).Many; got < most {
		t.Errorf("%d vertices, of more than there is room for", got)
	}
	again(t, "more than there is room for", m)
}

// Promise 17.1: the checkpoint is at each multiple of Keep, of the epoch in which it was come to; a job begins again from it in later epochs.
func TestCheckpoints(t *testing.T) {
	m := made(t, spec(40, 9, 1), 0)
	life, fromEpoch := 1, 0
	for step := range 30 {
		goes(t, m, step, api.PhaseCompute)
		from := step / api.Keep * api.Keep
		x := of(t, m, 0)
		if step > 0 && step%api.Keep == 0 {
			fromEpoch = m.Epoch()
		}
		if x.From != from || x.FromEpoch != fromEpoch {
			t.Errorf("superstep %d: from %d of epoch %d, not %d of epoch %d", step, x.From, x.FromEpoch, from, fromEpoch)
		}
		says(t, m, 0, api.Report{Agg: gives(api.AggSum, int64(step))})
		if x := of(t, m, 0); x.From != from || x.FromEpoch != fromEpoch || x.Keep != (step%api.Keep == 3) {
			t.Errorf("superstep %d is closed: %v", step, x)
		}
		if step%3 == 1 {
			life++
			does(t, m, join(0, life))
			want := api.Aggregate{}
			if from > 0 {
				want = gives(api.AggSum, int64(from-1))
			}
			x := of(t, m, 0)
			if x.Phase != api.PhaseLoad || x.Epoch != life || x.Step != from || x.From != from || x.FromEpoch != fromEpoch || x.Before != want {
				t.Errorf("superstep %d, lost: %v", step, x)
			}
			for again := from; again < step; again++ {
				goes(t, m, again, api.PhaseCompute)
				if got := of(t, m, 0).FromEpoch; got != fromEpoch {
					t.Errorf("superstep %d again: from epoch %d, not %d", again, got, fromEpoch)
				}
				says(t, m, 0, api.Report{Agg: gives(api.AggSum, int64(again))})
			}
			goes(t, m, step, api.PhaseCompute)
			says(t, m, 0, api.Report{Agg: gives(api.AggSum, int64(step))})
		}
	}
}

// Promise 17.1: a checkpoint that is come to in a later epoch again is of that one, and is the job's alone.
func TestCheckpointOfALaterEpoch(t *testing.T) {
	m := made(t, spec(40, 9, 1), 0)
	more(t, m, spec(40, 9, 1))
	goes(t, m, 2, api.PhaseClose)
	does(t, m, join(0, 2))
	phase(t, "no checkpoint yet", m, 0, 2, 0, api.PhaseLoad)
	goes(t, m, 3, api.PhaseClose)
	if x := of(t, m, 0); x.From != 0 || x.FromEpoch != 0 || !x.Keep {
		t.Errorf("ahead of a checkpoint: %v", x)
	}
	goes(t, m, 4, api.PhaseCompute)
	if x := of(t, m, 0); x.From != 4 || x.FromEpoch != 2 {
		t.Errorf("behind a checkpoint: %v", x)
	}
	does(t, m, join(0, 3))
	phase(t, "from it", m, 0, 3, 4, api.PhaseLoad)
	says(t, m, 0, api.Report{Active: 1})
	if x := of(t, m, 0); x.From != 4 || x.FromEpoch != 2 || x.Phase != api.PhaseCompute {
		t.Errorf("what was loaded is no other checkpoint: %v", x)
	}
	asks(t, "it goes", m, cancel(2, 1, 1), api.Reply{ID: 1}, api.OK)
	if x := of(t, m, 0); x.Job != 2 || x.Epoch != 4 || x.Step != 0 || x.From != 0 || x.FromEpoch != 0 {
		t.Errorf("the next job: %v", x)
	}
}

// Promise 17.1: a checkpoint that is come to where no vertex is active any more counts, too.
func TestCheckpointAtTheEnd(t *testing.T) {
	m := made(t, spec(40, 9, 1), 0)
	goes(t, m, 3, api.PhaseClose)
	says(t, m, 0, api.Report{Many: 2})
	phase(t, "to be collected", m, 0, 1, 4, api.PhaseCollect)
	does(t, m, join(0, 2))
	x := of(t, m, 0)
	if x.Phase != api.PhaseLoad || x.Step != 4 || x.From != 4 || x.FromEpoch != 1 {
		t.Errorf("again: %v", x)
	}
	says(t, m, 0, api.Report{Many: 2})
	phase(t, "to be collected again", m, 0, 2, 4, api.PhaseCollect)
	says(t, m, 0, api.Report{Values: []api.Value{{ID: 5, V: 6}}})
	stands(t, "done", m, done(1, 4, api.Value{ID: 5, V: 6}))
}

// Promise 17.1: values of other phases count for nothing, and of the same vertex all are told, sorted.
func TestValues(t *testing.T) {
	m := made(t, spec(9, 9, 2), 0, 1)
	says(t, m, 0, api.Report{Values: []api.Value{{ID: 8, V: 8}}})
	says(t, m, 1, api.Report{Values: []api.Value{{ID: 9, V: 9}}})
	k := again(t, "to be collected", m)
	a, b := []api.Value{{ID: 1, V: 5}, {ID: greatest, V: least}}, []api.Value{{ID: 1, V: -5}, {ID: least, V: greatest}, {ID: 1, V: 0}}
	says(t, m, 0, api.Report{Values: a})
	says(t, m, 1, api.Report{Values: b})
	says(t, k, 1, api.Report{Values: b})
	says(t, k, 0, api.Report{Values: a})
	want := done(1, 0, api.Value{ID: least, V: greatest}, api.Value{ID: 1, V: -5}, api.Value{ID: 1, V: 0}, api.Value{ID: 1, V: 5}, api.Value{ID: greatest, V: least})
	stands(t, "all", m, want)
	stands(t, "all, in another order", k, want)
	if m.Encode() != k.Encode() {
		t.Error("the order in which they reported is to be seen")
	}
}
