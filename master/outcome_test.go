package master_test

import (
	"fmt"
	"math/rand"
	"slices"
	"testing"

	"cohort/api"
	"cohort/master"
	"cohort/run"
)

// wide is a graph of some vertices, each with edges to those so many places on.
func wide(many int, steps ...int) api.Graph {
	g := api.Graph{}
	for i := range many {
		v := api.Vertex{ID: int64(i - 5), Value: int64(i)}
		for _, n := range steps {
			v.Edges = append(v.Edges, api.Edge{To: int64((i*i+n)%many - 5), Weight: int64(i*n%11 + 1)})
		}
		slices.SortFunc(v.Edges, func(a, b api.Edge) int { return int(a.To - b.To) })
		v.Edges = slices.CompactFunc(v.Edges, func(a, b api.Edge) bool { return a.To == b.To })
		g.Vertices = append(g.Vertices, v)
	}
	return g
}

// line is a way of so many vertices: the last one is far.
func line(many int) api.Graph {
	g := api.Graph{}
	for i := range many {
		v := api.Vertex{ID: int64(i)}
		if i+1 < many {
			v.Edges = []api.Edge{{To: int64(i + 1), Weight: int64(i)}}
		}
		g.Vertices = append(g.Vertices, v)
	}
	return g
}

// works is jobs of all programs, that come to all kinds of outcomes.
func works() []api.Job {
	heavy := line(6)
	for i := range heavy.Vertices[:5] {
		heavy.Vertices[i].Edges[0].Weight = greatest / 3
	}
	var l []api.Job
	for i, g := range []api.Graph{line(9), wide(17, 1, 3), heavy} {
		first := g.Vertices[0].ID
		for k, j := range []api.Job{
			{Program: "bfs", Params: []int64{first}}, {Program: "sssp", Params: []int64{first}}, {Program: "cc"}, {Program: "degree"},
			{Program: "pagerank", Params: []int64{6}}, {Program: "labels", Params: []int64{5}}, {Program: "triangles"},
			{Program: "kcore", Params: []int64{2}}, {Program: "matching"}, {Program: "colors"},
		} {
			j.Graph, j.Steps, j.Sent, j.Parts = g, 100, 1000, 1+(3*k+i)%7
			l = append(l, j)
			if k%3 == i {
				j.Steps = 3
				l = append(l, j)
				j.Steps, j.Sent = 100, 7
				l = append(l, j)
			}
		}
	}
	return append(l, api.Job{Program: "degree", Steps: 1, Parts: 3})
}

// right tells whether a job has ended with the outcome of the definition.
func right(t *testing.T, what string, m *master.Master, id int) api.Outcome {
	t.Helper()
	j, _ := m.Spec(id)
	want, e := run.Run(j)
	if e != api.OK {
		t.Fatalf("%s: error %d", what, e)
	}
	stands(t, what+", "+j.Program, m, api.Status{ID: id, State: api.Ended, Outcome: want})
	return want
}

// Promise 17.4: workers that do what they are told come to what the definition says, however many there are, in whatever order they report.
func TestOutcomes(t *testing.T) {
	kinds := map[api.Errno]int{}
	for _, many := range []int{1, 2, 3, 20} {
		for i, j := range works() {
			chance := rand.New(rand.NewSource(int64(100*many + i)))
			m, c := master.New(), newCrew()
			for w := range many {
				does(t, m, join(w, 1))
			}
			asks(t, "a job", m, submit(1, 1, text(j)), api.Reply{ID: 1}, api.OK)
			for m.Open() > 0 {
				c.turn(t, m, chance.Intn(many))
			}
			kinds[right(t, fmt.Sprint(many, " workers"), m, 1).Err]++
			if m.Epoch() != 1 {
				t.Errorf("nobody was lost, and it is epoch %d", m.Epoch())
			}
		}
	}
	for _, e := range []api.Errno{api.OK, api.ErrSteps, api.ErrQuota, api.ErrOverflow} {
		if kinds[e] == 0 {
			t.Errorf("no job came to error %d: %v", e, kinds)
		}
	}
}

// Promise 17.4: the same where a worker is lost in whatever superstep and phase, alone or beside others.
func TestOutcomesWithALoss(t *testing.T) {
	for _, many := range []int{1, 2, 3} {
		for _, j := range works() {
			if len(j.Graph.Vertices) != 9 || j.Steps != 100 || j.Sent != 1000 {
				continue
			}
			for at := 0; at < 60; at += 1 + at/10 {
				m, c := master.New(), newCrew()
				for w := range many {
					does(t, m, join(w, 1))
				}
				asks(t, "a job", m, submit(1, 1, text(j)), api.Reply{ID: 1}, api.OK)
				for turn := 0; turn < at && m.Open() > 0; turn++ {
					c.turn(t, m, turn%many)
				}
				c.fresh(0)
				does(t, m, lose(0, 1), join(0, 2))
				c.finish(t, m)
				right(t, fmt.Sprint("lost behind ", at, " of ", many), m, 1)
			}
		}
	}
}

// late is reports that are under way.
type late []api.Report

// takes is a report from any place, which goes or stays.
func (l *late) takes(chance *rand.Rand) (api.Report, bool) {
	if len(*l) == 0 {
		return api.Report{}, false
	}
	at := chance.Intn(len(*l))
	r := (*l)[at]
	if chance.Intn(3) > 0 {
		*l = slices.Delete(*l, at, at+1)
	}
	return r, true
}

// Promise 17.4: reports that are late, doubled and lost, workers that are lost and come again in later lives, jobs that are cancelled, masters that go through bytes.
func TestOutcomesInAMess(t *testing.T) {
	jobs := works()
	kinds := map[int]int{}
	for seed := range int64(15) {
		chance := rand.New(rand.NewSource(seed))
		m, c := master.New(), newCrew()
		many, lives, ended := 1+chance.Intn(5), map[int]int{}, map[int]api.Status{}
		var way late
		called := map[int]bool{}
		up := func(w int) {
			lives[w]++
			c.fresh(w)
			does(t, m, join(w, lives[w]))
		}
		for w := range many {
			up(w)
		}
		for seq := 1; seq < 400; {
			w := chance.Intn(many)
			switch n := chance.Intn(60); {
			case n < 25:
				if x, ok := m.Task(w); ok {
					way = append(way, c.works(t, w, x))
				}
			case n < 54:
				if r, ok := way.takes(chance); ok {
					does(t, m, reports(r))
				}
			case n == 54:
				does(t, m, lose(w, lives[w]-chance.Intn(2)))
				if _, there := m.Life(w); !there {
					c.fresh(w)
				}
			case n == 55:
				up(w)
			case n == 56 && len(m.Jobs()) > 0:
				id := 1 + chance.Intn(len(m.Jobs()))
				asks(t, "one goes", m, cancel(1, seq, id), api.Reply{ID: id}, api.OK)
				called[id] = true
				seq++
			case n == 57:
				m = again(t, "on the way", m)
			default:
				a, e := m.Apply(submit(1, seq, text(jobs[chance.Intn(len(jobs))])))
				if e != api.OK || a.Err != api.OK && a.Err != api.ErrBusy {
					t.Fatalf("seed %d: told %v, error %d", seed, a, e)
				}
				seq++
			}
			stay(t, m, ended)
		}
		for w := range many {
			up(w)
		}
		c.finish(t, m)
		stay(t, m, ended)
		for _, id := range m.Jobs() {
			s, _ := m.Status(id)
			kinds[s.State]++
			if s.State == api.Cancelled && called[id] {
				stands(t, "cancelled", m, cancelled(id))
			} else {
				right(t, fmt.Sprint("seed ", seed), m, id)
			}
		}
	}
	if kinds[api.Ended] < 100 || kinds[api.Cancelled] < 30 {
		t.Errorf("they came to %v", kinds)
	}
}

// stay tells whether jobs that had ended are as they were, and notes those that have.
func stay(t *testing.T, m *master.Master, ended map[int]api.Status) {
	t.Helper()
	for _, id := range m.Jobs() {
		s, _ := m.Status(id)
		was, over := ended[id]
		if over && !sameStatus(s, was) {
			t.Fatalf("job %d had ended as %v, and is %v", id, was, s)
		}
		if s.State == api.Ended || s.State == api.Cancelled {
			ended[id] = s
		}
	}
}

// Promise 17.4: what has ended stays, whatever commands come, of it and of others.
func TestEndedStays(t *testing.T) {
	m := made(t, spec(9, 9, 1), 0)
	for range 3 {
		more(t, m, spec(9, 9, 1))
	}
	says(t, m, 0, api.Report{})
	last := answer(of(t, m, 0), 0)
	says(t, m, 0, api.Report{Values: []api.Value{{ID: 1, V: 1}}})
	says(t, m, 0, api.Report{Err: api.ErrOverflow})
	asks(t, "the third one goes", m, cancel(2, 1, 3), api.Reply{ID: 3}, api.OK)
	ended := map[int]api.Status{}
	stay(t, m, ended)
	if len(ended) != 3 {
		t.Fatalf("%v have ended", ended)
	}
	last.Values = []api.Value{{ID: 2, V: 2}}
	seq := 2
	for id := 1; id <= 3; id++ {
		for p := 0; p <= 5; p++ {
			for epoch := range 6 {
				r := last
				r.Job, r.Phase, r.Epoch, r.Err = id, p, epoch, api.Errno(p%2)
				does(t, m, reports(r))
			}
		}
		asks(t, "to cancel it", m, cancel(2, seq, id), api.Reply{ID: id}, api.OK)
		does(t, m, lose(0, id), join(0, id+1), join(id, 1))
		seq++
		stay(t, m, ended)
		m = again(t, "behind all of it", m)
	}
	stay(t, m, ended)
	stands(t, "done", m, done(1, 0, api.Value{ID: 1, V: 1}))
	stands(t, "failed", m, failed(2, api.ErrOverflow, 0))
	stands(t, "cancelled", m, cancelled(3))
}
