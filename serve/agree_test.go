package serve_test

import (
	"fmt"
	"slices"
	"testing"

	"cohort/api"
	"cohort/disk"
	"cohort/master"
	"cohort/serve"
)

// prepare is what a leader tells of its log.
func prepare(from, to, of, index, commit int, l ...api.LogEntry) api.Packet {
	return packet(from, to, viewSay(api.ViewMsg{Kind: api.ViewPrepare, From: from, To: to, View: of, Index: index, Commit: commit, Entries: l}))
}

func okay(from, to, of, index int) api.Packet {
	return packet(from, to, viewSay(api.ViewMsg{Kind: api.ViewOk, From: from, To: to, View: of, Index: index}))
}

func want(from, to, of int) api.Packet {
	return packet(from, to, viewSay(api.ViewMsg{Kind: api.ViewWant, From: from, To: to, View: of}))
}

// whole is a message with all that one has that kept that.
func whole(kind, from, to, commit int, h api.Hard) api.Packet {
	return packet(from, to, viewSay(api.ViewMsg{Kind: kind, From: from, To: to, View: h.View, Normal: h.Normal, Index: h.BaseIndex + len(h.Log), Commit: commit,
		BaseIndex: h.BaseIndex, BaseView: h.BaseView, Base: h.Base, Entries: h.Log}))
}

// follows lets the master 0 of three follow the master 1, which has that log.
func follows(t *testing.T, s *serve.Server, commit int, h api.Hard) {
	t.Helper()
	s.Handle(want(1, 0, h.View))
	handles(t, "a view of another one", s, whole(api.ViewBegin, 1, 0, commit, h), okay(0, 1, h.View, h.BaseIndex+len(h.Log)))
	if s.Leads() {
		t.Fatalf("it leads the view of another one")
	}
}

// leads lets the master 0 of three lead a view, as the master 1 gives what it has.
func leads(t *testing.T, s *serve.Server, of, commit int, h api.Hard) {
	t.Helper()
	h.View = of
	s.Handle(want(1, 0, of))
	if l, e := s.Handle(whole(api.ViewGive, 1, 0, commit, h)); e != api.OK || len(l) != 2 || said(t, l[0]).View.Kind != api.ViewBegin {
		t.Fatalf("it does not begin view %d: error %d, %s", of, e, show(l))
	}
}

// Promise 18.2: what is committed is done at once, in order, and nothing else is.
func TestCommitted(t *testing.T) {
	l := entries(0, join(1, 1), join(2, 1), submit(1, 1, jobText(degree())), lose(1, 1))
	l[1].S = "no command"
	for commit := range len(l) + 3 {
		s := open(t, disk.New(), 1, 3)
		handles(t, "entries", s, prepare(0, 1, 0, 0, commit, l...), okay(1, 0, 0, 4))
		n := min(commit, 4)
		agreed(t, fmt.Sprint(commit, " committed"), s, does(master.New(), l[:n]...), n, 0)
		handles(t, "no more entries", s, prepare(0, 1, 0, 4, 4), okay(1, 0, 0, 4))
		agreed(t, "all committed", s, does(master.New(), l...), 4, 0)
	}
}

// Promise 18.2: at a leader what more than half have is done at once, too.
func TestCommittedByMost(t *testing.T) {
	s := open(t, disk.New(), 0, 5)
	handles(t, "a beat", s, packet(107, 0, beatSay(7, 1)), prepare(0, 1, 0, 1, 0), prepare(0, 2, 0, 1, 0), prepare(0, 3, 0, 1, 0), prepare(0, 4, 0, 1, 0))
	lives(t, "one has it", s)
	handles(t, "one more has not", s, okay(1, 0, 0, 0), prepare(0, 1, 0, 0, 0, entries(0, join(7, 1))...))
	handles(t, "one more has", s, okay(1, 0, 0, 1))
	lives(t, "two have it", s)
	handles(t, "one more has", s, okay(4, 0, 0, 1))
	lives(t, "three have it", s, 7, 1)
	agreed(t, "three have it", s, does(master.New(), entries(0, join(7, 1))...), 1, 0)
}

// Promise 18.2: a snapshot takes the place of all, and what is behind it is done.
func TestSnapshot(t *testing.T) {
	first := entries(0, join(1, 1), join(2, 1))
	m := does(master.New(), entries(1, join(9, 3), submit(4, 1, jobText(degree())))...)
	behind := entries(1, join(8, 1), lose(9, 3))
	h := api.Hard{View: 1, Normal: 1, BaseIndex: 20, BaseView: 1, Base: m.Encode(), Log: behind}
	s := open(t, disk.New(), 0, 3)
	stays(t, "entries of one that does not lead", s, prepare(1, 0, 0, 0, 2, first...))
	agreed(t, "nothing", s, master.New(), 0, 0)
	follows(t, s, 21, h)
	agreed(t, "a snapshot and an entry", s, does(m, behind[0]), 21, 20)
	handles(t, "all is committed", s, prepare(1, 0, 1, 22, 22), okay(0, 1, 1, 22))
	agreed(t, "a snapshot and two entries", s, does(m, behind[1]), 22, 20)
	// What was handed out itself is not handed out again by a snapshot of it.
	h.BaseIndex, h.Base, h.Log = 22, m.Encode(), entries(1, join(1, 1))
	h.View, h.Normal = 4, 4
	follows(t, s, 23, h)
	agreed(t, "a snapshot of what it has", s, does(m, h.Log...), 23, 22)
	h.BaseIndex, h.Base, h.Log = 24, "", nil
	m = does(master.New(), entries(0, join(5, 5))...)
	h.Base, h.View, h.Normal = m.Encode(), 7, 7
	follows(t, s, 24, h)
	agreed(t, "a snapshot of more than it has", s, m, 24, 24)
}

// Promise 18.2: a snapshot that is no master's does nothing, as a text that is no command; what comes behind it is done.
func TestSnapshotOfNothing(t *testing.T) {
	l := entries(0, join(1, 1))
	s := open(t, disk.New(), 1, 3)
	s.Handle(prepare(0, 1, 0, 0, 1, l...))
	h := api.Hard{BaseIndex: 20, Base: "no master", Log: entries(0, join(2, 1))}
	handles(t, "no master", s, whole(api.ViewBegin, 0, 1, 21, h), okay(1, 0, 0, 21))
	agreed(t, "no master", s, does(master.New(), append(l, h.Log...)...), 21, 20)
}

// Promise 18.2: when 30 or more were handed out behind the snapshot, another one is laid.
func TestLays(t *testing.T) {
	s, d := open(t, disk.New(), 1, 3), 0
	l := entries(0, joins(100)...)
	base := 0
	for _, n := range []int{10, 10, 9, 1, 16, 13, 16, 1, 16, 8} {
		s.Handle(prepare(0, 1, 0, d, d+n, l[d:d+n]...))
		d += n
		if d-base >= 30 {
			base = d
		}
		agreed(t, fmt.Sprint(d, " entries"), s, does(master.New(), l[:d]...), d, base)
		if got, _ := s.Node().Base(); base > 0 && base == d && got != s.Master().Encode() {
			t.Fatalf("%d entries: the snapshot is %q", d, got)
		}
		if rest := logs(s); len(rest) != d-base {
			t.Fatalf("%d entries: %d stay behind %d", d, len(rest), base)
		}
	}
	if d != 100 || base != 75 {
		t.Errorf("%d entries, a snapshot of %d", d, base)
	}
	// Entries that are not handed out don't count.
	s = open(t, disk.New(), 1, 3)
	for d = 0; d < 96; d += 16 {
		s.Handle(prepare(0, 1, 0, d, 29, l[d:d+16]...))
	}
	agreed(t, "29 of 96", s, does(master.New(), l[:29]...), 29, 0)
	s.Handle(prepare(0, 1, 0, 96, 30))
	agreed(t, "30 of 96", s, does(master.New(), l[:30]...), 30, 30)
	s.Handle(prepare(0, 1, 0, 96, 96))
	agreed(t, "96 of 96", s, does(master.New(), l[:96]...), 96, 96)
}

// Promise 18.2: one that is alone lays them as it puts, and stands up from them.
func TestLaysAlone(t *testing.T) {
	d := disk.New()
	s := open(t, d, 0, 1)
	m := master.New()
	for i, c := range joins(128) {
		handles(t, "a beat", s, packet(api.FirstWorker+c.Worker, 0, beatSay(c.Worker, c.Life)))
		does(m, entries(0, c)...)
		agreed(t, fmt.Sprint(i+1, " entries"), s, m, i+1, (i+1)/30*30)
		if i%11 == 0 {
			d.Crash(0, 0)
			d.Up()
			s = open(t, d, 0, 1)
			agreed(t, fmt.Sprint(i+1, " entries, again"), s, m, i+1, (i+1)/30*30)
		}
	}
}

// Promise 18.2: a command that was put, and is not handed out yet, is not put again in this view; once it is handed out, it may be.
func TestPutOnce(t *testing.T) {
	s := open(t, disk.New(), 0, 3)
	beat := packet(107, 0, beatSay(7, 1))
	handles(t, "a beat", s, beat, prepare(0, 1, 0, 1, 0), prepare(0, 2, 0, 1, 0))
	for range 3 {
		stays(t, "the same again", s, beat)
	}
	handles(t, "another one", s, packet(108, 0, beatSay(8, 1)), prepare(0, 1, 0, 2, 0), prepare(0, 2, 0, 2, 0))
	stays(t, "the first one again", s, beat)
	stays(t, "the second one again", s, packet(108, 0, beatSay(8, 1)))
	hasLog(t, "two", s, join(7, 1), join(8, 1))
	submission := packet(200, 0, askSubmit(3, 1, "no job"))
	handles(t, "a submission", s, submission, prepare(0, 1, 0, 3, 0), prepare(0, 2, 0, 3, 0))
	stays(t, "a submission again", s, submission)
	stays(t, "a submission again, of another node", s, packet(207, 0, askSubmit(3, 1, "no job")))
	handles(t, "a submission of another text", s, packet(200, 0, askSubmit(3, 1, "no job at all")), prepare(0, 1, 0, 4, 0), prepare(0, 2, 0, 4, 0))
	handles(t, "a cancellation by the same number", s, packet(200, 0, askCancel(3, 1, 1)), prepare(0, 1, 0, 5, 0), prepare(0, 2, 0, 5, 0))
	handles(t, "1 has the first two", s, okay(1, 0, 0, 2), prepare(0, 1, 0, 2, 2, entries(0, submit(3, 1, "no job"), submit(3, 1, "no job at all"), cancel(3, 1, 1))...))
	lives(t, "two", s, 7, 1, 8, 1)
	handles(t, "a beat of one that is there", s, beat, packet(0, 107, idle()))
	stays(t, "a submission that is not handed out", s, submission)
	handles(t, "1 has all", s, okay(1, 0, 0, 5))
	handles(t, "a submission that was done", s, submission, packet(0, 200, toldSay(1, 3, 1, api.Reply{Err: api.ErrCut}, api.Status{})))
	handles(t, "one that was told by another text", s, packet(200, 0, askCancel(3, 1, 1)), packet(0, 200, toldSay(2, 3, 1, api.Reply{Err: api.ErrCut}, api.Status{})))
	if len(logs(s)) != 5 {
		t.Errorf("the log has %q", logs(s))
	}
}

// Promise 18.2: the same command may be put again once it was handed out, where it is needed again.
func TestPutAgain(t *testing.T) {
	s := alone(t)
	beat := packet(107, 0, beatSay(7, 1))
	for i := range 3 {
		handles(t, "a beat", s, beat)
		lives(t, "there", s, 7, 1)
		ticks(t, s, api.Lease)
		lives(t, fmt.Sprint("lost ", i), s)
	}
	hasLog(t, "three times", s, join(7, 1), lose(7, 1), join(7, 1), lose(7, 1), join(7, 1), lose(7, 1))
}

// Promise 18.2: in another view nothing counts as put.
func TestPutInAnotherView(t *testing.T) {
	s := open(t, disk.New(), 0, 3)
	beat := packet(107, 0, beatSay(7, 1))
	s.Handle(beat)
	stays(t, "the same view", s, beat)
	// 1 leads without that entry, and it is gone.
	follows(t, s, 1, api.Hard{View: 1, Normal: 1, Log: entries(1, join(3, 1))})
	handles(t, "another one leads", s, beat, packet(0, 107, hintSay(1)))
	leads(t, s, 3, 1, api.Hard{Normal: 1, Log: entries(1, join(3, 1))})
	if !s.Leads() {
		t.Fatalf("it does not lead view 3")
	}
	handles(t, "another view", s, beat, prepare(0, 1, 3, 2, 1), prepare(0, 2, 3, 2, 1))
	stays(t, "the same view", s, beat)
	if l := logs(s); len(l) != 2 || l[1] != commandText(join(7, 1)) {
		t.Errorf("the log has %q", l)
	}
	handles(t, "1 has all", s, okay(1, 0, 3, 2))
	lives(t, "both", s, 3, 1, 7, 1)
}

// Promise 18.2: a command that was put in an earlier view may stand in the log of a later one, and is put there once more: it is not done twice.
func TestPutInTwoViews(t *testing.T) {
	s := open(t, disk.New(), 0, 3)
	ask := packet(200, 0, askSubmit(5, 1, jobText(degree())))
	s.Handle(ask)
	old := entries(0, submit(5, 1, jobText(degree())))
	follows(t, s, 0, api.Hard{View: 1, Normal: 1, Log: old})
	leads(t, s, 3, 0, api.Hard{Normal: 1, Log: old})
	if s.Leads() {
		t.Fatalf("it leads, and does not know of its entry")
	}
	handles(t, "it does not lead yet", s, ask, packet(0, 200, hintSay(0)))
	handles(t, "2 has it", s, okay(2, 0, 3, 1))
	if !s.Leads() {
		t.Fatalf("it does not lead")
	}
	handles(t, "it leads", s, ask, packet(0, 200, toldSay(1, 5, 1, api.Reply{ID: 1}, api.Status{})))
	if l := s.Master().Jobs(); len(l) != 1 {
		t.Errorf("the jobs are %v", l)
	}
	leads(t, s, 6, 1, api.Hard{Normal: 3, Log: append(slices.Clone(old), old...)})
	handles(t, "2 has it twice", s, okay(2, 0, 6, 2))
	if l := s.Master().Jobs(); len(l) != 1 || s.Node().At() != 2 {
		t.Errorf("the jobs are %v, at %d", l, s.Node().At())
	}
}

// Promise 18.2: where the log has no room, nothing is put, and it counts as not put.
func TestFullLog(t *testing.T) {
	s := open(t, disk.New(), 0, 3)
	for i := range api.MaxEntries {
		w, life := i%api.MaxWorkers, 1+i/api.MaxWorkers
		if l, e := s.Handle(packet(api.FirstWorker+w, 0, beatSay(w, life))); e != api.OK || len(l) != 2 {
			t.Fatalf("beat %d: error %d, %s", i, e, show(l))
		}
	}
	ask := packet(200, 0, askSubmit(5, 1, "no"))
	stays(t, "no room", s, ask)
	s.Handle(okay(2, 0, 0, 40))
	if _, base := s.Node().Base(); base != 40 || len(logs(s)) != api.MaxEntries-40 {
		t.Fatalf("the snapshot is of %d, %d entries stay", base, len(logs(s)))
	}
	handles(t, "room", s, ask, prepare(0, 1, 0, 1001, 40), prepare(0, 2, 0, 40, 40, s.Node().View().Hard().Log[:16]...))
}

// Promise 18.2: whatever is told to others of a command is kept ahead of that; when the power fails, nothing is told.
func TestFalls(t *testing.T) {
	for _, all := range []int{1, 3} {
		base := disk.New()
		s := open(t, base, 0, all)
		for _, c := range joins(29) {
			s.Handle(packet(api.FirstWorker+c.Worker, 0, beatSay(c.Worker, c.Life)))
		}
		if all == 3 {
			s.Handle(okay(1, 0, 0, 29))
		}
		falls := 0
		for at := range 5 {
			for torn := range 20 {
				d := base.Clone()
				s := open(t, d, 0, 1)
				agreed(t, "29", s, does(master.New(), entries(0, joins(29)...)...), 29, 0)
				d.Plan([]api.Fall{{At: d.Changes() + at, Keep: 0, Torn: torn}})
				l, e := s.Handle(packet(150, 0, beatSay(50, 7)))
				if e == api.OK {
					continue
				}
				falls++
				if e != api.ErrDead || l != nil {
					t.Fatalf("fall at %d: error %d, %s", at, e, show(l))
				}
				isDead(t, "a fall", s)
				d.Up()
				got := open(t, d, 0, 1)
				if at > 0 {
					// The entry was kept: what failed was the snapshot.
					agreed(t, "29 and one", got, does(master.New(), entries(0, append(joins(29), join(50, 7))...)...), 30, 30)
				} else {
					agreed(t, "29", got, does(master.New(), entries(0, joins(29)...)...), 29, 0)
				}
			}
		}
		if falls != 3*20 {
			t.Errorf("%d falls", falls)
		}
	}
}
