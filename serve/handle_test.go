package serve_test

import (
	"fmt"
	"slices"
	"testing"

	"cohort/api"
	"cohort/disk"
	"cohort/serve"
)

// every is something of each kind that can be said.
func every() []api.Say {
	return []api.Say{
		viewSay(api.ViewMsg{Kind: api.ViewWant, From: 1, To: 0, View: 1}), beatSay(7, 1), reportSay(7, 1, api.Report{Job: 1, Worker: 7}),
		idle(), taskSay(api.Task{Job: 1, Spec: degree()}), hintSay(1), hintSay(-1),
		askSubmit(1, 1, jobText(degree())), askCancel(1, 1, 1), askStatus(1, 1, 1), askSay(api.Ask{}),
		toldSay(1, 1, 1, api.Reply{ID: 1}, api.Status{}), {Kind: api.SayBatch}, {Kind: api.SayAck},
	}
}

// Promise 18.2: nothing, if a packet is not to it.
func TestNotToIt(t *testing.T) {
	for of, s := range map[int]*serve.Server{0: alone(t), 1: open(t, disk.New(), 1, 3), 2: open(t, disk.New(), 2, 3)} {
		for _, x := range every() {
			for _, to := range []int{-1, 0, 1, 2, 3, 100, 107, 200, least, greatest} {
				for _, from := range []int{0, 1, 2, 107, 200} {
					if to != of {
						stays(t, fmt.Sprintf("%d to %d at %d: %v", from, to, of, x), s, packet(from, to, x))
					}
				}
			}
		}
	}
}

// Promise 18.2: nothing, if a packet says nothing, or what is not for masters.
func TestSaysNothing(t *testing.T) {
	for of, s := range map[int]*serve.Server{0: alone(t), 1: open(t, disk.New(), 1, 3)} {
		for _, x := range every() {
			b := serve.Encode(x)
			for n := range len(b) {
				stays(t, "cut", s, api.Packet{From: 107, To: of, S: b[:n]})
			}
			stays(t, "more", s, api.Packet{From: 107, To: of, S: b + "\x00"})
			switch x.Kind {
			case api.SayTask, api.SayHint, api.SayTold, api.SayBatch, api.SayAck:
				for _, from := range []int{-1, 0, 1, 2, 107, 200} {
					stays(t, fmt.Sprint("kind ", x.Kind), s, packet(from, of, x))
				}
			}
		}
		for _, b := range []string{"", "\x00", "\x09", "\x80", "\xff\xff\xff\xff\xff\xff\xff\xff\xff\x01", "no packet"} {
			stays(t, "no kind", s, api.Packet{From: 200, To: of, S: b})
		}
	}
}

// Promise 18.2: SayView of the master that it names alone is heard.
func TestViewFrom(t *testing.T) {
	s := open(t, disk.New(), 0, 3)
	m := viewSay(api.ViewMsg{Kind: api.ViewWant, From: 1, To: 0, View: 1})
	for _, from := range []int{-1, 0, 2, 3, 101, 107, 200} {
		stays(t, fmt.Sprint("from ", from), s, packet(from, 0, m))
	}
	stays(t, "to another one by what it says", s, packet(1, 0, viewSay(api.ViewMsg{Kind: api.ViewWant, From: 1, To: 2, View: 1})))
	stays(t, "a message that may not be", s, packet(7, 0, viewSay(api.ViewMsg{Kind: api.ViewWant, From: 7, To: 0, View: 1})))
	stays(t, "no kind of message", s, packet(1, 0, viewSay(api.ViewMsg{From: 1, To: 0, View: 1})))
	stays(t, "of itself", s, packet(0, 0, viewSay(api.ViewMsg{Kind: api.ViewWant, From: 0, To: 0, View: 1})))
	// What it tells is what layer 14 tells of the same.
	n := nodeOf(t, disk.New(), 0, 3)
	want, e := n.Step(m.View)
	if e != api.OK || len(want) != 3 {
		t.Fatalf("error %d, %v", e, want)
	}
	var l []api.Packet
	for _, x := range want {
		l = append(l, packet(0, x.To, viewSay(x)))
	}
	handles(t, "from 1", s, packet(1, 0, m), l...)
}

// Promise 18.2: while it does not lead, beats and questions are told who does.
func TestHint(t *testing.T) {
	asks := []api.Say{beatSay(7, 1), beatSay(64, 1), beatSay(0, 0), reportSay(7, 1, api.Report{}), askSubmit(1, 1, ""), askSubmit(1, 0, ""), askCancel(1, 5, 1), askStatus(1, 1, 1), askSay(api.Ask{})}
	hinted := func(what string, s *serve.Server, me, leader int) {
		t.Helper()
		was := all(s)
		for _, x := range asks {
			for _, from := range []int{107, 100, 200, 207, 1, -5} {
				handles(t, what, s, packet(from, me, x), packet(me, from, hintSay(leader)))
			}
		}
		if now := all(s); now != was {
			t.Errorf("%s: %s\nwas %s", what, now, was)
		}
	}
	for me := 1; me < 3; me++ {
		hinted("view 0", open(t, disk.New(), me, 3), me, 0)
	}
	s := open(t, disk.New(), 0, 3)
	follows(t, s, 0, api.Hard{View: 1, Normal: 1})
	hinted("view 1", s, 0, 1)
	s.Handle(want(1, 0, 2))
	hinted("view 2 has not begun", s, 0, -1)
	s.Handle(want(1, 0, 3))
	hinted("its own view has not begun", s, 0, -1)
	s = stands(t, 0, 3, api.Hard{View: 3, Normal: 3, Log: entries(3, join(7, 1))})
	hinted("it leads, and does not know all yet", s, 0, 0)
	s.Handle(okay(1, 0, 3, 1))
	handles(t, "it leads", s, packet(107, 0, beatSay(7, 1)), packet(0, 107, idle()))
	s = stands(t, 6, 7, api.Hard{View: 10, Normal: 10})
	hinted("seven", s, 6, 3)
	s = stands(t, 0, 1, api.Hard{View: 10, Normal: 9})
	hinted("alone, and its view has not begun", s, 0, -1)
	for !s.Leads() {
		ticks(t, s, 1)
	}
	if s.Node().View().View() != 11 {
		t.Errorf("it leads view %d", s.Node().View().View())
	}
}

// Promise 18.2: a beat of a worker that is not there in that life lets it be there; nothing else is told of it.
func TestBeatJoins(t *testing.T) {
	s := alone(t)
	handles(t, "a worker", s, packet(107, 0, beatSay(7, 3)))
	lives(t, "a worker", s, 7, 3)
	handles(t, "an earlier life", s, packet(107, 0, beatSay(7, 2)))
	lives(t, "an earlier life", s, 7, 3)
	handles(t, "the same life", s, packet(107, 0, beatSay(7, 3)), packet(0, 107, idle()))
	lives(t, "the same life", s, 7, 3)
	handles(t, "a later life", s, packet(107, 0, beatSay(7, 5)))
	lives(t, "a later life", s, 7, 5)
	handles(t, "life 0", s, packet(163, 0, beatSay(63, 0)))
	lives(t, "life 0", s, 7, 5, 63, 0)
	handles(t, "the greatest life", s, packet(100, 0, beatSay(0, most)))
	lives(t, "the greatest life", s, 0, most, 7, 5, 63, 0)
	hasLog(t, "they came", s, join(7, 3), join(7, 5), join(63, 0), join(0, most))
}

// Promise 18.2: a beat counts from the worker that it names, which is below MaxWorkers.
func TestBeatFrom(t *testing.T) {
	s := alone(t)
	for _, l := range [][2]int{{100, 7}, {108, 7}, {7, 7}, {207, 7}, {-93, 7}, {164, 64}, {165, 65}, {200, 100}, {100 + most, most}, {0, 0}, {64, 64}} {
		stays(t, fmt.Sprint("from ", l[0], " of ", l[1]), s, packet(l[0], 0, beatSay(l[1], 1)))
		stays(t, fmt.Sprint("from ", l[0], " of ", l[1], ", a report"), s, packet(l[0], 0, reportSay(l[1], 1, api.Report{Worker: l[1]})))
	}
	handles(t, "the last one", s, packet(163, 0, beatSay(63, 1)))
	handles(t, "the first one", s, packet(100, 0, beatSay(0, 1)))
	lives(t, "two", s, 0, 1, 63, 1)
}

// working is a master with the workers 3 and 5 in life 1, and a job of two partitions that runs.
func working(t *testing.T) *serve.Server {
	t.Helper()
	j := degree()
	j.Parts = 2
	return stands(t, 0, 1, api.Hard{Log: entries(0, join(3, 1), join(5, 1), submit(9, 1, jobText(j)))})
}

// task is what a worker is to do.
func task(t *testing.T, s *serve.Server, worker int) api.Task {
	t.Helper()
	x, ok := s.Master().Task(worker)
	if !ok {
		t.Fatalf("worker %d has no task", worker)
	}
	return x
}

// reportOf is a report of a task.
func reportOf(x api.Task, worker int) api.Report {
	return api.Report{Job: x.Job, Epoch: x.Epoch, Step: x.Step, Phase: x.Phase, Worker: worker, Active: 1, Many: 1}
}

// Promise 18.2: a worker that is there is told its task with each beat, as it is then.
func TestBeatTask(t *testing.T) {
	s := working(t)
	for range 2 {
		for _, w := range []int{3, 5} {
			x := task(t, s, w)
			if x.Phase != api.PhaseLoad || len(x.Parts) != 1 {
				t.Fatalf("worker %d is to do %v", w, x)
			}
			handles(t, "a beat", s, packet(100+w, 0, beatSay(w, 1)), packet(0, 100+w, taskSay(x)))
		}
	}
	r := reportOf(task(t, s, 3), 3)
	handles(t, "a report", s, packet(103, 0, reportSay(3, 1, r)), packet(0, 103, idle()))
	handles(t, "the report again", s, packet(103, 0, reportSay(3, 1, r)), packet(0, 103, idle()))
	handles(t, "a beat", s, packet(103, 0, beatSay(3, 1)), packet(0, 103, idle()))
	// The other one's report ends the phase: it is told what comes then.
	x := task(t, s, 5)
	l, e := s.Handle(packet(105, 0, reportSay(5, 1, reportOf(x, 5))))
	if x = task(t, s, 5); x.Phase != api.PhaseCompute {
		t.Fatalf("worker 5 is to do %v", x)
	}
	told(t, "the last report", l, e, packet(0, 105, taskSay(x)))
	handles(t, "a beat of the first one", s, packet(103, 0, beatSay(3, 1)), packet(0, 103, taskSay(task(t, s, 3))))
	handles(t, "a report of the phase ahead", s, packet(103, 0, reportSay(3, 1, r)), packet(0, 103, taskSay(task(t, s, 3))))
	if n := len(logs(s)); n != 5 {
		t.Errorf("the log has %d entries", n)
	}
	beats(t, s, 9, 1)
	handles(t, "one without partitions", s, packet(109, 0, beatSay(9, 1)), packet(0, 109, idle()))
}

// Promise 18.2: a report that is not wanted, or not of that worker, is let be, and the task is told.
func TestReportNotWanted(t *testing.T) {
	s := working(t)
	x := task(t, s, 3)
	good := reportOf(x, 3)
	for what, change := range map[string]func(r *api.Report){
		"another job":       func(r *api.Report) { r.Job++ },
		"no job":            func(r *api.Report) { r.Job = 0 },
		"another epoch":     func(r *api.Report) { r.Epoch++ },
		"another superstep": func(r *api.Report) { r.Step++ },
		"another phase":     func(r *api.Report) { r.Phase++ },
		"another worker":    func(r *api.Report) { r.Worker = 5 },
		"no worker":         func(r *api.Report) { r.Worker = 9 },
	} {
		r := good
		change(&r)
		was := all(s)
		handles(t, what, s, packet(103, 0, reportSay(3, 1, r)), packet(0, 103, taskSay(x)))
		if all(s) != was {
			t.Errorf("%s: something was done", what)
		}
	}
	// A report beside a beat that lets a worker come in its next life does not count: the job begins again, without it.
	handles(t, "another life", s, packet(103, 0, reportSay(3, 2, good)))
	if y := task(t, s, 5); y.Epoch != x.Epoch+1 || y.Phase != api.PhaseLoad || len(y.Parts) != 2 {
		t.Errorf("worker 5 is to do %v", y)
	}
	again := reportOf(task(t, s, 5), 5)
	stays(t, "an earlier life", s, packet(103, 0, reportSay(3, 1, good)))
	handles(t, "the same life", s, packet(103, 0, reportSay(3, 2, good)), packet(0, 103, idle()))
	handles(t, "no report, whatever is behind", s, packet(105, 0, api.Say{Kind: api.SayBeat, Worker: 5, Life: 1, Report: again}), packet(0, 105, taskSay(task(t, s, 5))))
	l, e := s.Handle(packet(105, 0, reportSay(5, 1, again)))
	told(t, "a report", l, e, packet(0, 105, taskSay(task(t, s, 5))))
	if task(t, s, 5).Phase != api.PhaseCompute {
		t.Errorf("worker 5 is to do %v", task(t, s, 5))
	}
}

// Promise 18.2: of several, a report is put, and behind what that tells the task is told as it is then.
func TestReportOfSeveral(t *testing.T) {
	j := degree()
	j.Parts = 2
	l := entries(0, join(3, 1), join(5, 1), submit(9, 1, jobText(j)))
	s := stands(t, 0, 3, api.Hard{Log: l})
	s.Handle(okay(2, 0, 0, 3))
	x, y := task(t, s, 3), task(t, s, 5)
	a, b := packet(103, 0, reportSay(3, 1, reportOf(x, 3))), packet(105, 0, reportSay(5, 1, reportOf(y, 5)))
	handles(t, "a report", s, a, prepare(0, 1, 0, 4, 3), prepare(0, 2, 0, 3, 3, entries(0, reports(reportOf(x, 3)))...), packet(0, 103, taskSay(x)))
	handles(t, "a report that is under way", s, a, packet(0, 103, taskSay(x)))
	handles(t, "another one", s, b, prepare(0, 1, 0, 5, 3), prepare(0, 2, 0, 3, 3, entries(0, reports(reportOf(x, 3)), reports(reportOf(y, 5)))...), packet(0, 105, taskSay(y)))
	s.Handle(okay(2, 0, 0, 4))
	handles(t, "a report that was done", s, a, packet(0, 103, idle()))
	handles(t, "one that is under way", s, b, packet(0, 105, taskSay(y)))
	s.Handle(okay(2, 0, 0, 5))
	handles(t, "both were done", s, a, packet(0, 103, taskSay(task(t, s, 3))))
	if task(t, s, 3).Phase != api.PhaseCompute {
		t.Errorf("worker 3 is to do %v", task(t, s, 3))
	}
}

// Promise 18.2: a status is told at once, with what was asked.
func TestAskStatus(t *testing.T) {
	s := alone(t)
	status := func(what string, seq, id int, e api.Errno, want api.Status) {
		t.Helper()
		was := all(s)
		for _, from := range []int{200, 207, 107, 1, -1} {
			handles(t, what, s, packet(from, 0, askStatus(-8, seq, id)), packet(0, from, toldSay(3, -8, seq, api.Reply{Err: e}, want)))
		}
		if all(s) != was {
			t.Errorf("%s: something was done", what)
		}
	}
	status("no job", 0, 1, api.ErrJob, api.Status{})
	status("job 0", most, 0, api.ErrJob, api.Status{})
	status("the greatest job", 5, most, api.ErrJob, api.Status{})
	s.Handle(packet(200, 0, askSubmit(1, 1, jobText(degree()))))
	s.Handle(packet(200, 0, askSubmit(1, 2, jobText(degree()))))
	status("one that waits", 3, 1, api.OK, api.Status{ID: 1, State: api.Queued})
	beats(t, s, 3, 1)
	status("one that runs", 3, 1, api.OK, api.Status{ID: 1, State: api.Running, Epoch: 1})
	for range 100 {
		x, ok := s.Master().Task(3)
		if !ok || x.Step == 7 {
			break
		}
		s.Handle(packet(103, 0, reportSay(3, 1, reportOf(x, 3))))
	}
	status("one that ran on", 3, 1, api.OK, api.Status{ID: 1, State: api.Running, Step: 7, Epoch: 1})
	r := reportOf(task(t, s, 3), 3)
	r.Err = 5
	s.Handle(packet(103, 0, reportSay(3, 1, r)))
	status("one that failed", 3, 1, api.OK, api.Status{ID: 1, State: api.Ended, Outcome: api.Outcome{Kind: api.Failed, Err: api.ErrOverflow, Steps: 7}})
	for range 2 {
		r = reportOf(task(t, s, 3), 3)
		r.Active, r.Values = 0, []api.Value{{ID: 2, V: 3}, {ID: 1, V: -1}}
		s.Handle(packet(103, 0, reportSay(3, 1, r)))
	}
	status("one that is done", 3, 2, api.OK, api.Status{ID: 2, State: api.Ended, Outcome: api.Outcome{Kind: api.Done, Values: []api.Value{{ID: 1, V: -1}, {ID: 2, V: 3}}}})
	s.Handle(packet(200, 0, askSubmit(1, 3, jobText(degree()))))
	s.Handle(packet(200, 0, askCancel(1, 4, 3)))
	status("one that was cancelled", 3, 3, api.OK, api.Status{ID: 3, State: api.Cancelled})
	status("no more", 3, 4, api.ErrJob, api.Status{})
}

// Promise 18.2: a request that is new is put, and told when it is asked for again; what is told bears what was asked.
func TestRequests(t *testing.T) {
	s := alone(t)
	request := func(what string, x api.Say, want api.Reply) {
		t.Helper()
		n := s.Node().At()
		handles(t, what, s, packet(203, 0, x))
		if s.Node().At() != n+1 {
			t.Fatalf("%s: it was not put", what)
		}
		was := all(s)
		for _, from := range []int{203, 200, 107, 2} {
			handles(t, what+" again", s, packet(from, 0, x), packet(0, from, toldSay(x.Ask.Kind, x.Ask.Session, x.Ask.Seq, want, api.Status{})))
		}
		if all(s) != was {
			t.Fatalf("%s again: something was done", what)
		}
	}
	refuse := func(what string, x api.Say, e api.Errno) {
		t.Helper()
		was := all(s)
		handles(t, what, s, packet(203, 0, x), packet(0, 203, toldSay(x.Ask.Kind, x.Ask.Session, x.Ask.Seq, api.Reply{Err: e}, api.Status{})))
		if all(s) != was {
			t.Fatalf("%s: something was done", what)
		}
	}
	refuse("request 0", askSubmit(-4, 0, jobText(degree())), api.ErrArg)
	refuse("request 2 ahead of 1", askSubmit(-4, 2, jobText(degree())), api.ErrGap)
	request("a job", askSubmit(-4, 1, jobText(degree())), api.Reply{ID: 1})
	refuse("request 3 ahead of 2", askCancel(-4, 3, 1), api.ErrGap)
	request("no job", askSubmit(-4, 2, ""), api.Reply{Err: api.ErrCut})
	refuse("request 1 behind 2", askSubmit(-4, 1, jobText(degree())), api.ErrOld)
	falling := text("degree") + numbers(2) + signed(2, 0) + numbers(0) + signed(1, 0) + numbers(0) + numbers(0, 1, 1, 1)
	request("a graph whose vertices do not rise", askSubmit(-4, 3, falling), api.Reply{Err: api.ErrVertex})
	if len(s.Master().Jobs()) != 1 {
		t.Errorf("the jobs are %v", s.Master().Jobs())
	}
	request("a cancellation", askCancel(-4, 4, 1), api.Reply{ID: 1})
	request("a cancellation of no job", askCancel(-4, 5, 2), api.Reply{Err: api.ErrJob})
	for i := range api.MaxQueue {
		request("one more job", askSubmit(greatest, 1+i, jobText(degree())), api.Reply{ID: 2 + i})
	}
	request("too many jobs", askSubmit(least, 1, jobText(degree())), api.Reply{Err: api.ErrBusy})
	refuse("the greatest request", askSubmit(least, most, jobText(degree())), api.ErrGap)
	for i := range api.MaxSessions - 3 {
		request("a session", askCancel(int64(i), 1, 99), api.Reply{Err: api.ErrJob})
	}
	refuse("one session more", askCancel(1000, 1, 1), api.ErrMany)
	refuse("one session more, out of turn", askCancel(1000, 2, 1), api.ErrGap)
	stays(t, "no kind of asking", s, packet(203, 0, askSay(api.Ask{Session: -4, Seq: 6, S: jobText(degree()), ID: 2})))
	if l := s.Master().Jobs(); !slices.Equal(l, []int{1, 2, 3, 4, 5, 6, 7, 8, 9}) {
		t.Errorf("the jobs are %v", l)
	}
}

// Promise 18.4: with several masters nothing is told of a request until masters agreed on it.
func TestToldWhenAgreed(t *testing.T) {
	s := open(t, disk.New(), 0, 3)
	ask := packet(200, 0, askSubmit(5, 1, jobText(degree())))
	handles(t, "a submission", s, ask, prepare(0, 1, 0, 1, 0), prepare(0, 2, 0, 1, 0))
	for range 20 {
		s.Tick()
		stays(t, "again", s, ask)
		handles(t, "its job", s, packet(200, 0, askStatus(5, 7, 1)), packet(0, 200, toldSay(3, 5, 7, api.Reply{Err: api.ErrJob}, api.Status{})))
		handles(t, "the next request", s, packet(200, 0, askCancel(5, 2, 1)), packet(0, 200, toldSay(2, 5, 2, api.Reply{Err: api.ErrGap}, api.Status{})))
	}
	s.Handle(okay(1, 0, 0, 1))
	handles(t, "agreed", s, ask, packet(0, 200, toldSay(1, 5, 1, api.Reply{ID: 1}, api.Status{})))
	handles(t, "its job", s, packet(200, 0, askStatus(5, 7, 1)), packet(0, 200, toldSay(3, 5, 7, api.Reply{}, api.Status{ID: 1, State: api.Queued})))
}

// Promise 18.2: what a master that leads tells with its ticks is what layer 14 tells.
func TestTick(t *testing.T) {
	for me := range 3 {
		d := disk.New()
		n := nodeOf(t, d, me, 3)
		s := open(t, d, me, 3)
		many := 0
		for i := range 100 {
			want, _ := n.Tick()
			var l []api.Packet
			for _, m := range want {
				l = append(l, packet(me, m.To, viewSay(m)))
			}
			got, e := s.Tick()
			told(t, fmt.Sprint("tick ", i, " at ", me), got, e, l...)
			many += len(l)
		}
		if many < 4 {
			t.Errorf("%d tells %d packets", me, many)
		}
	}
}

// Promise 18.3: what is asked of a server changes nothing.
func TestAskedOnly(t *testing.T) {
	a, b := working(t), working(t)
	for i := range 70 {
		a.Master().Jobs()
		a.Node().View().Hard()
		a.Leads()
		a.Dead()
		x, e := a.Tick()
		y, f := b.Tick()
		if !slices.Equal(x, y) || e != f || all(a) != all(b) {
			t.Fatalf("tick %d: %s, %s", i, show(x), show(y))
		}
	}
	lives(t, "70 ticks", a)
}

// The example of the chapter: a follower is asked.
func TestExample(t *testing.T) {
	s := open(t, disk.New(), 1, 3)
	handles(t, "a follower", s, packet(200, 1, askSubmit(1, 1, jobText(degree()))), packet(1, 200, hintSay(0)))
}
