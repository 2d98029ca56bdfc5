package master_test

import (
	"fmt"
	"math/rand"
	"slices"
	"testing"

	"cohort/api"
	"cohort/master"
)

// agrees holds all that a master tells against the model.
func (x *model) agrees(t *testing.T, what string, m *master.Master, workers int) {
	t.Helper()
	list(t, what+": workers", m.Workers(), x.workers()...)
	if m.Open() != x.open() || m.Epoch() != x.epochs || len(m.Jobs()) != len(x.jobs) {
		t.Fatalf("%s: %d are open, epoch %d, %d jobs, not %d, %d, %d", what, m.Open(), m.Epoch(), len(m.Jobs()), x.open(), x.epochs, len(x.jobs))
	}
	for w := -1; w <= workers; w++ {
		life, there := m.Life(w)
		if want, is := x.life(w); life != want || there != is {
			t.Fatalf("%s: worker %d is in life %d, %v, not %d, %v", what, w, life, there, want, is)
		}
		got, ok := m.Task(w)
		if want, is := x.task(w); ok != is || !sameTask(got, want) {
			t.Fatalf("%s: worker %d is to do %v, %v, not %v, %v", what, w, got, ok, want, is)
		}
	}
	for id := 0; id <= len(x.jobs)+1; id++ {
		got, e := m.Status(id)
		if want, f := x.status(id); e != f || !sameStatus(got, want) {
			t.Fatalf("%s: job %d is %v, error %d, not %v, error %d", what, id, got, e, want, f)
		}
		if j, ok := m.Spec(id); ok != (e == api.OK) || ok && !sameSpec(j, x.jobs[id-1].spec) {
			t.Fatalf("%s: job %d is %v, %v", what, id, j, ok)
		}
	}
}

// looks holds what a master tells of requests and reports against the model.
func (x *model) looks(t *testing.T, what string, m *master.Master, session int64, seq int, r api.Report) {
	t.Helper()
	a, ok, e := m.Look(session, seq)
	if b, is, f := x.look(session, seq); a != b || ok != is || e != f {
		t.Fatalf("%s: session %d, %d: %v, %v, error %d, not %v, %v, error %d", what, session, seq, a, ok, e, b, is, f)
	}
	if m.Wants(r) != x.wants(r) {
		t.Fatalf("%s: %v is wanted: %v", what, r, m.Wants(r))
	}
}

// chooser draws commands, most of which do something.
type chooser struct {
	*rand.Rand
	workers int
	texts   []string
	lives   map[int]int
}

func newChooser(seed int64) *chooser {
	c := &chooser{Rand: rand.New(rand.NewSource(seed)), lives: map[int]int{}, texts: []string{"", "no job"}}
	c.workers = 1 + c.Intn(6)
	for range 6 {
		c.texts = append(c.texts, text(spec(1+c.Intn(14), c.Intn(9), 1+c.Intn(5))))
	}
	return c
}

// report is one that is wanted, most times, with anything in it.
func (c *chooser) report(m *master.Master) api.Report {
	r := api.Report{Job: 1, Epoch: 1, Worker: c.Intn(c.workers)}
	for _, w := range c.Perm(c.workers) {
		if x, ok := m.Task(w); ok {
			r = answer(x, w)
			break
		}
	}
	r.Active, r.Many, r.Sent = c.Intn(3), c.Intn(4), c.Intn(4)
	if c.Intn(4) > 0 {
		r.Active++
		r.Sent = 0
	}
	if c.Intn(60) == 0 {
		r.Err = api.Errno(1 + c.Intn(100))
	}
	for kind := range api.Aggs {
		if c.Intn(3) == 0 {
			r.Agg.Has[kind] = true
			r.Agg.V[kind] = int64(c.Intn(20) - 10)
			if c.Intn(30) == 0 {
				r.Agg.V[kind] = greatest
			}
		}
	}
	for range c.Intn(3) {
		r.Values = append(r.Values, api.Value{ID: int64(c.Intn(5)), V: int64(c.Intn(3))})
	}
	if c.Intn(6) == 0 {
		*[]*int{&r.Job, &r.Epoch, &r.Step, &r.Phase, &r.Worker}[c.Intn(5)] += c.Intn(5) - 2
	}
	return r
}

func (c *chooser) command(m *master.Master, x *model) api.Command {
	session := int64(c.Intn(3) - 1)
	seq := len(x.told[session]) + c.Intn(4)/3*(c.Intn(4)-2) + 1
	w := c.Intn(c.workers+1) - c.Intn(20)/19
	switch n := c.Intn(100); {
	case n < 4:
		return submit(session, seq, c.texts[c.Intn(len(c.texts))])
	case n < 6:
		return cancel(session, seq, c.Intn(len(x.jobs)+3)-1)
	case n < 9:
		c.lives[w] += c.Intn(2)
		return join(w, c.lives[w])
	case n < 11:
		return lose(w, c.lives[w]-c.Intn(4)/3)
	case n == 11:
		return api.Command{Kind: c.Intn(12) - 3, Session: session, Seq: seq, Worker: w, Life: c.lives[w]}
	}
	return reports(c.report(m))
}

// Promises 17.1 to 17.4: long walks by any commands beside the model, with a second master that is told the same, and goes through bytes each time.
func TestWalks(t *testing.T) {
	kinds := map[string]int{}
	for seed := range int64(60) {
		c := newChooser(seed)
		m, k, x := master.New(), master.New(), newModel()
		ended := map[int]api.Status{}
		for i := range 700 {
			what := fmt.Sprint("seed ", seed, ", command ", i)
			cmd := c.command(m, x)
			x.looks(t, what, m, cmd.Session, cmd.Seq, cmd.Report)
			kept := slices.Clone(cmd.Report.Values)
			a, e := m.Apply(cmd)
			b, f := k.Apply(cmd)
			if want, g := x.apply(cmd); a != want || e != g || b != want || f != g {
				t.Fatalf("%s, %v: told %v, error %d, and %v, error %d, not %v, error %d", what, cmd, a, e, b, f, want, g)
			}
			if !slices.Equal(cmd.Report.Values, kept) {
				t.Fatalf("%s: what was handed in became %v", what, cmd)
			}
			x.looks(t, what, m, cmd.Session, cmd.Seq, cmd.Report)
			x.agrees(t, what, m, c.workers)
			if m.Encode() != k.Encode() {
				t.Fatalf("%s: the other one has other bytes", what)
			}
			k = again(t, what, k)
			stay(t, m, ended)
		}
		for _, s := range ended {
			kinds[fmt.Sprint(s.State, s.Outcome.Kind, s.Outcome.Err)]++
		}
	}
	for _, s := range []api.Status{done(0, 0), cancelled(0), failed(0, api.ErrOverflow, 0), failed(0, api.ErrQuota, 0), failed(0, api.ErrSteps, 0)} {
		if kinds[fmt.Sprint(s.State, s.Outcome.Kind, s.Outcome.Err)] < 10 {
			t.Errorf("hardly any job came to %v: %v", s, kinds)
		}
	}
}

// Promise 17.3: commands that go through bytes do the same.
func TestWalksByBytes(t *testing.T) {
	for seed := range int64(10) {
		c := newChooser(1000 + seed)
		m, k, x := master.New(), master.New(), newModel()
		for range 500 {
			cmd := c.command(m, x)
			a, e := m.Apply(cmd)
			x.apply(cmd)
			s, f := master.EncodeCommand(cmd)
			if f != api.OK {
				if e != api.ErrCmd {
					t.Fatalf("%v: error %d, told %v, error %d", cmd, f, a, e)
				}
				continue
			}
			if cmd.Worker < 0 || cmd.ID < 0 || cmd.Seq < 0 || cmd.Report.Worker < 0 || cmd.Report.Job < 0 || cmd.Report.Step < 0 || cmd.Report.Epoch < 0 || cmd.Life < 0 {
				k.Apply(cmd) // bytes have 0 there
				continue
			}
			got, f := master.DecodeCommand(s)
			if b, g := k.Apply(got); f != api.OK || a != b || e != g {
				t.Fatalf("%v, by bytes %v, error %d: told %v, error %d, not %v, error %d", cmd, got, f, b, g, a, e)
			}
			if m.Encode() != k.Encode() {
				t.Fatalf("%v, by bytes: another master", cmd)
			}
		}
	}
}
