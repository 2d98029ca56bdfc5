package serve_test

import (
	"fmt"
	"testing"

	"cohort/api"
	"cohort/disk"
	"cohort/serve"
)

// beats lets a worker's beat come.
func beats(t *testing.T, s *serve.Server, worker, life int) {
	t.Helper()
	if _, e := s.Handle(packet(api.FirstWorker+worker, 0, beatSay(worker, life))); e != api.OK {
		t.Fatalf("a beat of worker %d, life %d: error %d", worker, life, e)
	}
}

// Promise 18.2: a worker of which nothing was heard for Lease ticks is lost, and none before.
func TestLease(t *testing.T) {
	s := alone(t)
	beats(t, s, 7, 3)
	lives(t, "a beat", s, 7, 3)
	ticks(t, s, api.Lease-1)
	lives(t, "59 ticks", s, 7, 3)
	ticks(t, s, 1)
	lives(t, "60 ticks", s)
	hasLog(t, "lost", s, join(7, 3), lose(7, 3))
	ticks(t, s, 3*api.Lease)
	hasLog(t, "lost once", s, join(7, 3), lose(7, 3))
	if api.Lease != 60 {
		t.Errorf("a lease is of %d ticks", api.Lease)
	}
}

// Promise 18.2: a beat renews the lease, with a report or without one, wanted or not.
func TestRenewed(t *testing.T) {
	s := alone(t)
	beats(t, s, 7, 3)
	for i := range 5 {
		ticks(t, s, api.Lease-1)
		if i%2 == 0 {
			beats(t, s, 7, 3)
		} else {
			s.Handle(packet(107, 0, reportSay(7, 3, api.Report{Job: 1, Worker: 7})))
		}
		lives(t, fmt.Sprint("beat ", i), s, 7, 3)
	}
	ticks(t, s, api.Lease-1)
	lives(t, "59 ticks", s, 7, 3)
	ticks(t, s, 1)
	lives(t, "60 ticks", s)
}

// Promise 18.2: what is no beat of that worker, or one of an earlier life, renews nothing.
func TestNotRenewed(t *testing.T) {
	s := alone(t)
	beats(t, s, 7, 3)
	ticks(t, s, 30)
	for what, p := range map[string]api.Packet{
		"an earlier life":      packet(107, 0, beatSay(7, 2)),
		"life 0":               packet(107, 0, beatSay(7, 0)),
		"another worker's":     packet(108, 0, beatSay(7, 3)),
		"a client's":           packet(200, 0, beatSay(7, 3)),
		"a master's":           packet(7, 0, beatSay(7, 3)),
		"to another one":       packet(107, 1, beatSay(7, 3)),
		"a task":               packet(107, 0, idle()),
		"a batch":              packet(107, 0, api.Say{Kind: api.SayBatch}),
		"an acknowledgement":   packet(107, 0, api.Say{Kind: api.SayAck}),
		"no kind of asking":    packet(107, 0, askSay(api.Ask{})),
		"nothing":              {From: 107, To: 0},
		"a beat that is cut":   {From: 107, To: 0, S: serve.Encode(beatSay(7, 3))[:3]},
		"a beat that has more": {From: 107, To: 0, S: serve.Encode(beatSay(7, 3)) + "x"},
	} {
		stays(t, what, s, p)
	}
	handles(t, "a question", s, packet(107, 0, askStatus(1, 1, 1)), packet(0, 107, toldSay(3, 1, 1, api.Reply{Err: api.ErrJob}, api.Status{})))
	ticks(t, s, 29)
	lives(t, "59 ticks", s, 7, 3)
	ticks(t, s, 1)
	lives(t, "60 ticks", s)
}

// Promise 18.2: a worker is lost by its life; a later one begins with its own lease.
func TestLostByLife(t *testing.T) {
	s := alone(t)
	beats(t, s, 7, 3)
	beats(t, s, 5, 1)
	ticks(t, s, 40)
	beats(t, s, 7, 4)
	lives(t, "the next life", s, 5, 1, 7, 4)
	ticks(t, s, 20)
	lives(t, "60 ticks", s, 7, 4)
	ticks(t, s, 39)
	lives(t, "99 ticks", s, 7, 4)
	ticks(t, s, 1)
	lives(t, "100 ticks", s)
	hasLog(t, "lost", s, join(7, 3), join(5, 1), join(7, 4), lose(5, 1), lose(7, 4))
	beats(t, s, 7, 2)
	lives(t, "an earlier life of one that is not there", s, 7, 2)
}

// Promise 18.2: several that are over at one tick are lost by their numbers.
func TestLostInOrder(t *testing.T) {
	s := alone(t)
	for _, w := range []int{9, 63, 0, 30, 4} {
		beats(t, s, w, w+1)
	}
	ticks(t, s, api.Lease)
	lives(t, "all", s)
	hasLog(t, "lost", s, join(9, 10), join(63, 64), join(0, 1), join(30, 31), join(4, 5), lose(0, 1), lose(4, 5), lose(9, 10), lose(30, 31), lose(63, 64))
}

// Promise 18.2: all workers that are there have a lease from when a master begins to lead: when it stands up alone, from then on.
func TestLeaseFromOpen(t *testing.T) {
	s := stands(t, 0, 1, api.Hard{View: 3, Normal: 3, Log: entries(3, join(7, 3), join(5, 1), join(5, 2), join(9, 1), lose(9, 1))})
	lives(t, "at first", s, 5, 2, 7, 3)
	ticks(t, s, 20)
	beats(t, s, 5, 2)
	ticks(t, s, 39)
	lives(t, "59 ticks", s, 5, 2, 7, 3)
	ticks(t, s, 1)
	lives(t, "60 ticks", s, 5, 2)
	ticks(t, s, 19)
	lives(t, "79 ticks", s, 5, 2)
	ticks(t, s, 1)
	lives(t, "80 ticks", s)
}

// goneAt is how many ticks pass until a master puts something.
func goneAt(t *testing.T, s *serve.Server) int {
	t.Helper()
	was := len(logs(s))
	for i := 1; i <= 1000; i++ {
		if _, e := s.Tick(); e != api.OK {
			t.Fatalf("tick %d: error %d", i, e)
		}
		if len(logs(s)) != was {
			return i
		}
	}
	return 0
}

// Promise 18.2: one of several begins to lead when all that it had is committed, not when its view begins.
func TestLeaseFromReady(t *testing.T) {
	l := entries(1, join(7, 3), join(5, 2))
	s := stands(t, 0, 3, api.Hard{View: 3, Normal: 3, Log: l})
	for range 100 {
		if _, e := s.Tick(); e != api.OK || s.Leads() {
			t.Fatalf("error %d, it leads: %t", e, s.Leads())
		}
	}
	s.Handle(okay(1, 0, 3, 1))
	lives(t, "half of it", s, 7, 3)
	for range 100 {
		if _, e := s.Tick(); e != api.OK || s.Leads() {
			t.Fatalf("error %d, it leads: %t", e, s.Leads())
		}
	}
	s.Handle(okay(1, 0, 3, 2))
	if !s.Leads() {
		t.Fatalf("it does not lead")
	}
	lives(t, "all of it", s, 5, 2, 7, 3)
	if n := goneAt(t, s); n != api.Lease {
		t.Errorf("they are lost behind %d ticks", n)
	}
	hasLog(t, "lost", s, join(7, 3), join(5, 2), lose(5, 2), lose(7, 3))
	// The tick that puts them tells the others, behind what it tells anyway.
	s = stands(t, 0, 3, api.Hard{View: 3, Normal: 3, Log: l})
	s.Handle(okay(1, 0, 3, 2))
	for range api.Lease - 1 {
		s.Tick()
	}
	got, e := s.Tick()
	told(t, "tick 60", got, e, prepare(0, 1, 3, 2, 2), prepare(0, 2, 3, 2, 2),
		prepare(0, 1, 3, 2, 2, entries(3, lose(5, 2))...), prepare(0, 2, 3, 3, 2),
		prepare(0, 1, 3, 2, 2, entries(3, lose(5, 2), lose(7, 3))...), prepare(0, 2, 3, 4, 2))
	lives(t, "not committed", s, 5, 2, 7, 3)
	s.Handle(okay(2, 0, 3, 4))
	lives(t, "committed", s)
}

// Promise 18.2: in another view all leases begin anew: nothing is left of those of a view ahead.
func TestLeaseInAnotherView(t *testing.T) {
	s := open(t, disk.New(), 0, 3)
	beats(t, s, 7, 3)
	beats(t, s, 5, 9)
	beats(t, s, 4, 1)
	s.Handle(okay(1, 0, 0, 3))
	lives(t, "view 0", s, 4, 1, 5, 9, 7, 3)
	for range 50 {
		s.Tick()
	}
	// Under another one 7 comes to another life, 5 is lost and comes again in an earlier life, and 4 is lost.
	l := append(entries(0, join(7, 3), join(5, 9), join(4, 1)), entries(1, join(7, 4), lose(5, 9), join(5, 2), lose(4, 1), join(6, 1))...)
	follows(t, s, 8, api.Hard{View: 1, Normal: 1, Log: l})
	lives(t, "view 1", s, 5, 2, 6, 1, 7, 4)
	for range 9 {
		s.Tick()
	}
	leads(t, s, 3, 8, api.Hard{Normal: 1, Log: l})
	if n := goneAt(t, s); n != api.Lease {
		t.Errorf("they are lost behind %d ticks", n)
	}
	if got := logs(s); len(got) != 11 || got[8] != commandText(lose(5, 2)) || got[9] != commandText(lose(6, 1)) || got[10] != commandText(lose(7, 4)) {
		t.Errorf("the log has %q", got)
	}
}

// Promise 18.2: while it does not lead, nobody is lost, and no lease is renewed.
func TestNobodyLostByFollowers(t *testing.T) {
	l := entries(0, join(7, 3))
	s := open(t, disk.New(), 1, 3)
	for i := range 500 {
		if i%5 == 0 {
			handles(t, "the leader is there", s, prepare(0, 1, 0, 0, 1, l...), okay(1, 0, 0, 1))
			handles(t, "a beat", s, packet(107, 1, beatSay(7, 3)), packet(1, 107, hintSay(0)))
		}
		if got, e := s.Tick(); e != api.OK || len(got) > 0 {
			t.Fatalf("tick %d: error %d, %s", i, e, show(got))
		}
	}
	hasLog(t, "nobody is lost", s, join(7, 3))
	lives(t, "nobody is lost", s, 7, 3)
}

// Promise 18.2: the lease of a worker that is not there yet is over as others are: its life is lost behind its coming, once.
func TestLeaseAheadOfJoin(t *testing.T) {
	s := open(t, disk.New(), 0, 3)
	beats(t, s, 7, 3)
	for range 10 {
		s.Tick()
	}
	beats(t, s, 7, 3)
	if n := goneAt(t, s); n != api.Lease {
		t.Errorf("it is lost behind %d ticks", n)
	}
	hasLog(t, "not committed", s, join(7, 3), lose(7, 3))
	// It has no lease any more; a beat has one again, but both commands are under way.
	beats(t, s, 7, 3)
	if n := goneAt(t, s); n != 0 {
		t.Errorf("something is put behind %d ticks", n)
	}
	s.Handle(okay(1, 0, 0, 1))
	lives(t, "it came", s, 7, 3)
	s.Handle(okay(1, 0, 0, 2))
	lives(t, "it is lost", s)
}
