package serve_test

import (
	"slices"
	"testing"

	"cohort/api"
	"cohort/disk"
	"cohort/run"
	"cohort/serve"
)

// group is masters with a network that loses nothing, and what others were told.
type group struct {
	t       *testing.T
	disks   []*disk.Disk
	servers []*serve.Server // nil: without power
	out     []api.Packet
}

func newGroup(t *testing.T, n int) *group {
	g := &group{t: t}
	for i := range n {
		g.disks = append(g.disks, disk.New())
		g.servers = append(g.servers, open(t, g.disks[i], i, n))
	}
	return g
}

// brings brings packets where they go, and what is told of them, as long as keep says so.
func (g *group) brings(l []api.Packet, keep func(p api.Packet) bool) {
	g.t.Helper()
	for len(l) > 0 {
		p := l[0]
		l = l[1:]
		if p.To >= len(g.servers) {
			g.out = append(g.out, p)
			continue
		}
		if g.servers[p.To] == nil || !keep(p) {
			continue
		}
		more, e := g.servers[p.To].Handle(p)
		if e != api.OK {
			g.t.Fatalf("%d: error %d", p.To, e)
		}
		l = append(l, more...)
	}
}

func always(api.Packet) bool { return true }

// asks is what a node is told of what it tells a master.
func (g *group) asks(from, to int, x api.Say) []api.Say {
	g.t.Helper()
	g.out = nil
	g.brings([]api.Packet{packet(from, to, x)}, always)
	var l []api.Say
	for _, p := range g.out {
		if p.From != to || p.To != from {
			g.t.Fatalf("%d tells %d, and %d asked %d", p.From, p.To, from, to)
		}
		l = append(l, said(g.t, p))
	}
	return l
}

// rounds lets ticks pass at all masters that have power.
func (g *group) rounds(n int) {
	g.t.Helper()
	for range n {
		for i, s := range g.servers {
			if s == nil {
				continue
			}
			l, e := s.Tick()
			if e != api.OK {
				g.t.Fatalf("%d: error %d", i, e)
			}
			g.brings(l, always)
		}
	}
}

// leader is the one that leads; there is one at most.
func (g *group) leader() int {
	g.t.Helper()
	at := -1
	for i, s := range g.servers {
		if s != nil && s.Leads() {
			if at >= 0 {
				g.t.Fatalf("%d and %d lead", at, i)
			}
			at = i
		}
	}
	return at
}

func says(t *testing.T, what string, got []api.Say, want ...api.Say) {
	t.Helper()
	if !slices.EqualFunc(got, want, sameSay) {
		t.Fatalf("%s: told %v, not %v", what, got, want)
	}
}

// Example 1 of the whole: one master, one worker, a client that submits degree of 1 -> 2.
func TestOneJob(t *testing.T) {
	for _, n := range []int{1, 3, 7} {
		g := newGroup(t, n)
		c := newCrew(1)
		h := c.hands[0]
		job := askSubmit(1, 1, jobText(degree()))
		says(t, "a submission", g.asks(200, 0, job))
		says(t, "again", g.asks(200, 0, job), toldSay(1, 1, 1, api.Reply{ID: 1}, api.Status{}))
		says(t, "a worker", g.asks(100, 0, h.beat()))
		phases := []int{}
		for h.task.Phase != api.PhaseCollect {
			l := g.asks(100, 0, h.beat())
			if len(l) != 1 || l[0].Kind != api.SayTask {
				t.Fatalf("a worker is told %v", l)
			}
			if l[0].Has {
				c.takes(h, l[0].Task)
				phases = append(phases, h.task.Phase)
			}
		}
		if phases = slices.Compact(phases); !slices.Equal(phases, []int{1, 2, 3, 2, 3, 4}) {
			t.Errorf("the phases are %v", phases)
		}
		g.asks(100, 0, h.beat())
		done := api.Status{ID: 1, State: api.Ended, Outcome: api.Outcome{Kind: api.Done, Steps: 2, Values: []api.Value{{ID: 1, V: 1}, {ID: 2, V: 1}}}}
		says(t, "its end", g.asks(200, 0, askStatus(1, 2, 1)), toldSay(3, 1, 2, api.Reply{}, done))
		if o, _ := run.Run(degree()); !run.Same(o, done.Outcome) {
			t.Errorf("the definition has %v", o)
		}
		says(t, "nothing is left", g.asks(100, 0, h.beat()), idle())
	}
}

// Example 3 of the whole: the leader loses its power behind the entry of a submission; another one leads, and the client, which asks again by the same number, is told of the same job: there is one.
func TestLeaderLost(t *testing.T) {
	job := askSubmit(1, 1, jobText(degree()))
	want := toldSay(1, 1, 1, api.Reply{ID: 1}, api.Status{})
	ways := map[string]func(p api.Packet) bool{
		"nobody else has it":           func(p api.Packet) bool { return p.From == 200 },
		"1 has it, and nobody knows":   func(p api.Packet) bool { return p.From == 200 || p.From == 0 && p.To == 1 },
		"2 has it, and nobody knows":   func(p api.Packet) bool { return p.From == 200 || p.From == 0 && p.To == 2 },
		"one has it, and it knows":     func(p api.Packet) bool { return p.To != 2 },
		"all have it":                  always,
		"it alone, and what stands up": func(p api.Packet) bool { return p.From == 200 },
	}
	for what, keep := range ways {
		g := newGroup(t, 3)
		g.brings([]api.Packet{packet(200, 0, job)}, keep)
		if len(g.out) > 0 {
			t.Fatalf("%s: told %s", what, show(g.out))
		}
		g.disks[0].Crash(0, 0)
		isDead(t, what, g.servers[0])
		g.servers[0] = nil
		g.rounds(60)
		at := g.leader()
		if at < 1 {
			t.Fatalf("%s: %d leads", what, at)
		}
		for try := 0; ; try++ {
			if l := g.asks(200, at, job); len(l) > 0 {
				says(t, what, l, want)
				break
			}
			if try == 3 {
				t.Fatalf("%s: nothing is told", what)
			}
		}
		g.disks[0].Up()
		g.servers[0] = open(t, g.disks[0], 0, 3)
		g.rounds(60)
		says(t, what+": again", g.asks(200, g.leader(), job), want)
		says(t, what+": the next one", g.asks(200, g.leader(), askCancel(1, 2, 1)))
		says(t, what+": the next one again", g.asks(200, g.leader(), askCancel(1, 2, 1)), toldSay(2, 1, 2, api.Reply{ID: 1}, api.Status{}))
		g.rounds(10)
		for i, s := range g.servers {
			if l := s.Master().Jobs(); !slices.Equal(l, []int{1}) || s.Master().Encode() != g.servers[0].Master().Encode() {
				t.Errorf("%s: %d has the jobs %v", what, i, l)
			}
		}
	}
}

// Promise 18.2: what a worker of a lost leader did stays; it is told by the next leader what it is to do.
func TestWorkerOfLostLeader(t *testing.T) {
	g := newGroup(t, 3)
	c := newCrew(1)
	h := c.hands[0]
	g.asks(200, 0, askSubmit(1, 1, jobText(degree())))
	g.asks(100, 0, h.beat())
	for range 2 {
		c.takes(h, g.asks(100, 0, h.beat())[0].Task)
		g.asks(100, 0, h.beat())
	}
	if h.task.Phase != api.PhaseCompute {
		t.Fatalf("the worker is at %v", h.task)
	}
	was, _ := g.servers[0].Master().Task(0)
	g.disks[0].Crash(0, 0)
	g.servers[0] = nil
	g.rounds(60)
	at := g.leader()
	says(t, "the next leader", g.asks(100, at, beatSay(0, 1)), taskSay(was))
	says(t, "the other one", g.asks(100, 3-at, beatSay(0, 1)), hintSay(at))
	g.rounds(api.Lease)
	if l := g.servers[at].Master().Workers(); len(l) > 0 {
		t.Errorf("the workers are %v", l)
	}
}
