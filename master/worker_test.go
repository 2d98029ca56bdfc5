package master_test

import (
	"math"
	"testing"

	"cohort/api"
	"cohort/master"
)

// lives tells whether a worker is there in a life.
func lives(t *testing.T, what string, m *master.Master, worker, life int) {
	t.Helper()
	if got, ok := m.Life(worker); !ok || got != life {
		t.Errorf("%s: worker %d is in life %d, %v, not in %d", what, worker, got, ok, life)
	}
}

// lacks tells whether workers are not there.
func lacks(t *testing.T, what string, m *master.Master, workers ...int) {
	t.Helper()
	for _, w := range workers {
		if got, ok := m.Life(w); ok || got != 0 {
			t.Errorf("%s: worker %d is in life %d, %v", what, w, got, ok)
		}
	}
}

// Promises 17.1, 17.2: workers join, those that may be, and are told rising.
func TestJoin(t *testing.T) {
	m := master.New()
	for _, w := range []int{-1, -64, math.MinInt, api.MaxWorkers, api.MaxWorkers + 1, math.MaxInt} {
		does(t, m, join(w, 1))
		lacks(t, "one that may not be", m, w)
	}
	list(t, "workers", m.Workers())
	does(t, m, join(api.MaxWorkers-1, 3), join(5, 1), join(0, 7), join(12, -4), join(1, most+1))
	list(t, "workers", m.Workers(), 0, 1, 5, 12, api.MaxWorkers-1)
	lives(t, "the last one", m, api.MaxWorkers-1, 3)
	lives(t, "below 0", m, 12, -4)
	lives(t, "beyond", m, 1, most+1)
	lives(t, "the first one", m, 0, 7)
	lacks(t, "others", m, 2, 4, 6, 62, -1, 64)
	k := again(t, "workers", m)
	list(t, "workers again", k.Workers(), 0, 1, 5, 12, api.MaxWorkers-1)
	lives(t, "again, below 0", k, 12, -4)
	lives(t, "again, beyond", k, 1, most+1)
	for w := range api.MaxWorkers {
		does(t, m, join(w, 1))
	}
	if n := len(m.Workers()); n != api.MaxWorkers {
		t.Errorf("%d workers", n)
	}
	again(t, "all workers", m)
}

// Promise 17.1: one that is there in the same life, or a later one: nothing.
func TestJoinAgain(t *testing.T) {
	m := made(t, spec(9, 9, 2), 0, 1)
	does(t, m, join(2, 5))
	goes(t, m, 1, api.PhaseCompute)
	before := m.Encode()
	does(t, m, join(0, 1), join(0, 0), join(1, -1), join(0, math.MinInt), join(2, 5), join(2, 4))
	if m.Encode() != before {
		t.Error("one that is there did something")
	}
	lives(t, "as it was", m, 2, 5)
}

// Promise 17.1: one that is there in an earlier life is lost, then it is there: with others the job begins again without it, alone with it.
func TestJoinLater(t *testing.T) {
	m := made(t, spec(9, 9, 2), 0, 1)
	goes(t, m, 2, api.PhaseCompute)
	does(t, m, join(0, 2))
	lives(t, "later", m, 0, 2)
	list(t, "workers", m.Workers(), 0, 1)
	idle(t, "it has no partition", m, 0)
	phase(t, "the other one", m, 1, 2, 0, api.PhaseLoad)
	list(t, "all partitions", of(t, m, 1).Assigned, 1, 1)
	does(t, m, join(1, 4))
	lives(t, "later", m, 1, 4)
	idle(t, "it has no partition", m, 1)
	phase(t, "the first one", m, 0, 3, 0, api.PhaseLoad)
	list(t, "all partitions", of(t, m, 0).Assigned, 0, 0)
	does(t, m, join(1, 5))
	if m.Epoch() != 3 {
		t.Errorf("one without partitions, in a later life: epoch %d", m.Epoch())
	}
	lives(t, "later, without partitions", m, 1, 5)
	m = made(t, spec(9, 9, 2), 4)
	goes(t, m, 2, api.PhaseClose)
	does(t, m, join(4, 2))
	phase(t, "alone", m, 4, 2, 0, api.PhaseLoad)
	list(t, "all partitions", of(t, m, 4).Assigned, 4, 4)
}

// Promise 17.1: one that joins while a job runs has nothing to do, and changes nothing of it, until that begins again or another one begins.
func TestJoinWhileItRuns(t *testing.T) {
	m := made(t, spec(9, 9, 3), 7)
	more(t, m, spec(9, 9, 4))
	goes(t, m, 1, api.PhaseCompute)
	does(t, m, join(2, 1), join(9, 1))
	phase(t, "as it was", m, 7, 1, 1, api.PhaseCompute)
	idle(t, "later ones", m, 2, 9)
	list(t, "partitions", of(t, m, 7).Assigned, 7, 7, 7)
	does(t, m, lose(7, 1))
	list(t, "partitions", of(t, m, 2).Assigned, 2, 9, 2)
	phase(t, "again", m, 9, 2, 0, api.PhaseLoad)
	does(t, m, join(7, 1))
	idle(t, "it came later", m, 7)
	asks(t, "the first job goes", m, cancel(2, 1, 1), api.Reply{ID: 1}, api.OK)
	list(t, "partitions of the second job", of(t, m, 7).Assigned, 2, 7, 9, 2)
	if m.Epoch() != 3 {
		t.Errorf("epoch %d", m.Epoch())
	}
}

// Promise 17.1: one is lost in just its life.
func TestLose(t *testing.T) {
	m := master.New()
	does(t, m, join(3, 5), join(4, 5))
	before := m.Encode()
	does(t, m, lose(3, 4), lose(3, 6), lose(3, 0), lose(5, 5), lose(-1, 5), lose(64, 5), lose(math.MaxInt, 0), lose(0, 0))
	if m.Encode() != before {
		t.Error("in another life, or of one that is not there, it did something")
	}
	does(t, m, lose(3, 5))
	list(t, "workers", m.Workers(), 4)
	lacks(t, "lost", m, 3)
	does(t, m, lose(3, 5))
	list(t, "workers", m.Workers(), 4)
	does(t, m, join(3, 1))
	lives(t, "nothing is kept of its life", m, 3, 1)
}

// Promise 17.1: one without partitions is lost: the job goes on as it was.
func TestLoseWithoutPartitions(t *testing.T) {
	m := made(t, spec(9, 9, 2), 1, 2, 3)
	idle(t, "one too many", m, 3)
	goes(t, m, 1, api.PhaseCompute)
	says(t, m, 2, api.Report{Active: 1})
	x := of(t, m, 1)
	does(t, m, lose(3, 1))
	list(t, "workers", m.Workers(), 1, 2)
	if !sameTask(of(t, m, 1), x) || m.Epoch() != 1 {
		t.Errorf("it is to do %v, not %v", of(t, m, 1), x)
	}
	idle(t, "it has reported", m, 2)
	says(t, m, 1, api.Report{Active: 1})
	phase(t, "on", m, 2, 1, 1, api.PhaseClose)
}

// Promise 17.1: one with partitions is lost: the job begins again, whoever has reported.
func TestLoseWithPartitions(t *testing.T) {
	for _, p := range []int{api.PhaseLoad, api.PhaseCompute, api.PhaseClose} {
		for _, who := range []int{1, 2} {
			m := made(t, spec(9, 9, 3), 1, 2)
			goes(t, m, 0, p)
			says(t, m, 1, api.Report{Active: 1, Agg: gives(api.AggSum, 3)})
			does(t, m, lose(who, 1))
			left := 3 - who
			phase(t, "again", m, left, 2, 0, api.PhaseLoad)
			stands(t, "again", m, runs(1, 0, 2))
			list(t, "all partitions", of(t, m, left).Parts, 0, 1, 2)
			idle(t, "lost", m, who)
			if x := of(t, m, left); x.Before != (api.Aggregate{}) {
				t.Errorf("it begins with %v", x.Before)
			}
		}
	}
}

// Promise 17.1: the last one is lost: the job runs on without partitions and reports, until one joins.
func TestLoseTheLast(t *testing.T) {
	m := made(t, spec(20, 9, 2), 1, 2)
	more(t, m, spec(9, 9, 1))
	goes(t, m, 6, api.PhaseCompute)
	says(t, m, 1, api.Report{Active: 1})
	stale := answer(of(t, m, 2), 2)
	does(t, m, lose(1, 1))
	phase(t, "the other one", m, 2, 2, 4, api.PhaseLoad)
	goes(t, m, 5, api.PhaseClose)
	last := answer(of(t, m, 2), 2)
	does(t, m, lose(2, 1))
	idle(t, "nobody is there", m, 1, 2)
	list(t, "workers", m.Workers())
	stands(t, "without partitions", m, runs(1, 5, 2))
	stands(t, "the next one", m, waits(2))
	for _, r := range []api.Report{stale, last} {
		if m.Wants(r) {
			t.Errorf("%v is wanted", r)
		}
		does(t, m, reports(r))
	}
	stands(t, "without partitions, behind reports", m, runs(1, 5, 2))
	more(t, m, spec(9, 9, 1))
	asks(t, "one that waits goes", m, cancel(2, 1, 2), api.Reply{ID: 2}, api.OK)
	if m.Epoch() != 2 || m.Open() != 2 {
		t.Errorf("epoch %d, %d are open", m.Epoch(), m.Open())
	}
	m = again(t, "without partitions", m)
	does(t, m, join(64, 1), join(-1, 1))
	stands(t, "without partitions still", m, runs(1, 5, 2))
	does(t, m, join(8, 1))
	phase(t, "again", m, 8, 3, 4, api.PhaseLoad)
	list(t, "all partitions", of(t, m, 8).Parts, 0, 1)
	stands(t, "again", m, runs(1, 4, 3))
	if x := of(t, m, 8); x.From != 4 || x.FromEpoch != 1 {
		t.Errorf("it begins from superstep %d of epoch %d", x.From, x.FromEpoch)
	}
}

// Promise 17.1: jobs that were submitted while there were no workers begin one by one, in their order, when one joins.
func TestBeginInOrder(t *testing.T) {
	m := made(t, spec(9, 9, 1))
	more(t, m, spec(9, 9, 1))
	more(t, m, spec(9, 9, 1))
	for id := 1; id <= 3; id++ {
		stands(t, "no worker", m, waits(id))
	}
	if m.Epoch() != 0 || m.Open() != 3 {
		t.Errorf("epoch %d, %d are open", m.Epoch(), m.Open())
	}
	does(t, m, join(3, 1))
	for id := 1; id <= 3; id++ {
		stands(t, "its turn", m, runs(id, 0, id))
		if id < 3 {
			stands(t, "not yet", m, waits(id+1))
		}
		says(t, m, 3, api.Report{})
		says(t, m, 3, api.Report{})
		stands(t, "done", m, done(id, 0))
	}
	idle(t, "nothing is left", m, 3)
	more(t, m, spec(9, 9, 1))
	stands(t, "one more begins at once", m, runs(4, 0, 4))
}
