package serve_test

import (
	"fmt"
	"slices"
	"testing"

	"cohort/api"
	"cohort/disk"
	"cohort/master"
	"cohort/serve"
	"cohort/wal"
)

// does is a master that did texts, one behind the other.
func does(m *master.Master, l ...api.LogEntry) *master.Master {
	for _, e := range l {
		if c, f := master.DecodeCommand(e.S); f == api.OK {
			m.Apply(c)
		}
	}
	return m
}

// agreed is that a server has just what a master has, and has handed out so many entries behind a snapshot at a place.
func agreed(t *testing.T, what string, s *serve.Server, m *master.Master, at, base int) {
	t.Helper()
	if s.Master().Encode() != m.Encode() {
		t.Fatalf("%s: what was agreed on is %q, not %q", what, s.Master().Encode(), m.Encode())
	}
	if _, got := s.Node().Base(); s.Node().At() != at || got != base {
		t.Fatalf("%s: %d were handed out behind %d, not %d behind %d", what, s.Node().At(), got, at, base)
	}
}

// opensNot is that Open tells an error and nothing more.
func opensNot(t *testing.T, what string, d *disk.Disk, me, all int, want api.Errno) {
	t.Helper()
	if s, e := serve.Open(d, me, all); e != want || s != nil {
		t.Fatalf("%s: Open(%d, %d) tells error %d, not %d, and a master: %t", what, me, all, e, want, s != nil)
	}
}

// joins is so many commands that let workers join, each another one.
func joins(n int) []api.Command {
	var l []api.Command
	for i := range n {
		l = append(l, join(i%api.MaxWorkers, 1+i/api.MaxWorkers))
	}
	return l
}

// Promise 18.2: on a new disk it knows nothing; the one that leads view 0 leads at once.
func TestOpenNew(t *testing.T) {
	for all := 1; all <= api.MaxMasters; all++ {
		for me := range all {
			what := fmt.Sprint(me, " of ", all)
			s := open(t, disk.New(), me, all)
			agreed(t, what, s, master.New(), 0, 0)
			if s.Leads() != (me == 0) || s.Node().View().Leader() != 0 {
				t.Errorf("%s: leads: %t, and it thinks of %d", what, s.Leads(), s.Node().View().Leader())
			}
			if l := logs(s); len(l) > 0 {
				t.Errorf("%s: the log has %q", what, l)
			}
		}
	}
}

// Promise 18.2: rnode.Open's errors.
func TestOpenErrors(t *testing.T) {
	opensNot(t, "no disk", nil, 0, 1, api.ErrArg)
	for _, l := range [][2]int{{0, 0}, {0, -1}, {-1, 1}, {1, 1}, {3, 3}, {7, 8}, {0, 8}, {least, greatest}} {
		opensNot(t, "masters that may not be", disk.New(), l[0], l[1], api.ErrArg)
		opensNot(t, "masters that may not be, ahead of a snapshot that is none", laid(t, api.Hard{BaseIndex: 1, Base: "no"}), l[0], l[1], api.ErrArg)
	}
	d := disk.New()
	d.Crash(0, 0)
	opensNot(t, "a disk without power", d, 0, 1, api.ErrDead)
	opensNot(t, "a disk without power, ahead of masters that may not be", d, 0, 0, api.ErrDead)
	d = disk.New()
	w, _, _ := wal.Open(d)
	w.Add("no record")
	opensNot(t, "another form", d, 0, 1, api.ErrForm)
	w.Reset("no snapshot", nil)
	opensNot(t, "another form of a snapshot", d, 0, 1, api.ErrForm)
	// Too many entries may be a record, but no master.
	opensNot(t, "too great a view", laid(t, api.Hard{View: 1, Normal: 2}), 0, 1, api.ErrArg)
}

// Promise 18.2: master.Decode's error, if the snapshot is none.
func TestOpenNoMaster(t *testing.T) {
	good := does(master.New(), entries(0, join(1, 1), submit(1, 1, jobText(degree())))...).Encode()
	told := map[api.Errno]bool{}
	for _, s := range []string{"", "x", good + "\x00", good[:len(good)-1], good[1:], "\x80\x00", "\xff\xff", master.New().Encode() + "more", "\x01\x00\x00"} {
		_, want := master.Decode(s)
		if want == api.OK {
			t.Fatalf("%q is a master", s)
		}
		told[want] = true
		for _, index := range []int{1, 30, most} {
			opensNot(t, fmt.Sprintf("%q at %d", s, index), laid(t, api.Hard{BaseIndex: index, Base: s}), 0, 1, want)
			opensNot(t, fmt.Sprintf("%q at %d of three", s, index), laid(t, api.Hard{View: 3, Normal: 2, BaseIndex: index, Base: s, Log: entries(1, join(1, 1))}), 2, 3, want)
		}
		if s != "" {
			opensNot(t, fmt.Sprintf("%q at 0", s), laid(t, api.Hard{Base: s}), 0, 1, want)
		}
	}
	if len(told) < 3 {
		t.Errorf("the errors are %v", told)
	}
	s := stands(t, 0, 1, api.Hard{BaseIndex: 5, Base: good})
	agreed(t, "a snapshot that is one", s, does(master.New(), entries(0, join(1, 1), submit(1, 1, jobText(degree())))...), 5, 5)
}

// Promise 18.2: what was committed is done in order, behind the snapshot; texts that are no commands do nothing.
func TestOpenLaid(t *testing.T) {
	l := slices.Concat(
		entries(0, join(3, 1), submit(7, 1, jobText(degree()))),
		[]api.LogEntry{{S: ""}, {S: "no command"}, {S: commandText(join(4, 1)) + "\x00"}, {S: commandText(join(4, 1))[:2]}, {S: "\x09"}},
		entries(1, submit(7, 1, "again"), cancel(7, 2, 1), lose(3, 9), submit(8, 1, "no job"), submit(7, 3, jobText(degree())), lose(3, 1), join(5, 2)),
	)
	for n := range len(l) + 1 {
		h := api.Hard{View: 4, Normal: 4, Log: l[:n]}
		what := fmt.Sprint(n, " entries")
		m := does(master.New(), l[:n]...)
		agreed(t, what, stands(t, 0, 1, h), m, n, 0)
		for of := range 3 {
			agreed(t, what+", of which none is known to be committed", stands(t, of, 3, h), master.New(), 0, 0)
		}
		base := api.Hard{View: 4, Normal: 4, BaseIndex: 100 + n, BaseView: 1, Base: m.Encode(), Log: l[n:]}
		agreed(t, what+" in a snapshot", stands(t, 0, 1, base), does(master.New(), l...), 100+len(l), 100+n)
		agreed(t, what+" in a snapshot of three", stands(t, 1, 3, base), m, 100+n, 100+n)
	}
}

// Promise 18.2: where 30 or more were handed out behind the snapshot, another one is laid, by Open, too.
func TestOpenLays(t *testing.T) {
	for _, n := range []int{29, 30, 31, 64, 100} {
		for _, behind := range []int{0, 7} {
			l := entries(2, joins(n)...)
			h := api.Hard{View: 2, Normal: 2, BaseIndex: behind, Log: l}
			if behind > 0 {
				h.Base = master.New().Encode()
			}
			base := behind
			if n >= 30 {
				base = behind + n
			}
			d := laid(t, h)
			what := fmt.Sprint(n, " behind ", behind)
			s := open(t, d, 0, 1)
			agreed(t, what, s, does(master.New(), l...), behind+n, base)
			if got, _ := s.Node().Base(); n >= 30 && got != s.Master().Encode() {
				t.Errorf("%s: the snapshot is %q", what, got)
			}
			agreed(t, what+" again", open(t, d, 0, 1), does(master.New(), l...), behind+n, base)
			// One that stands up among others has not handed out anything.
			agreed(t, what+" of three", stands(t, 2, 3, h), master.New(), behind, behind)
		}
	}
}

// Promise 18.2: when the power fails in Open, it tells ErrDead; behind that it stands up with all that it had.
func TestOpenFalls(t *testing.T) {
	l := entries(2, joins(40)...)
	fresh := disk.New()
	full := laid(t, api.Hard{View: 2, Normal: 2, Log: l})
	for what, of := range map[string]*disk.Disk{"a new disk": fresh, "a full log": full} {
		falls := 0
		for at := range 5 {
			for keep := range 3 {
				for torn := range 30 {
					d := of.Clone()
					d.Plan([]api.Fall{{At: d.Changes() + at, Keep: keep, Torn: torn}})
					s, e := serve.Open(d, 0, 1)
					if e == api.OK {
						if d.Dead() || s.Dead() {
							t.Fatalf("%s: the power failed at %d", what, at)
						}
						continue
					}
					falls++
					if e != api.ErrDead || s != nil || !d.Dead() {
						t.Fatalf("%s: error %d", what, e)
					}
					d.Up()
					if of == fresh {
						agreed(t, what, open(t, d, 0, 1), master.New(), 0, 0)
					} else {
						agreed(t, what, open(t, d, 0, 1), does(master.New(), l...), 40, 40)
					}
				}
			}
		}
		if falls != 2*3*30 {
			t.Errorf("%s: %d falls", what, falls)
		}
	}
}

// Promise 18.3: what a server tells ahead of everything; a nil one, and one that no Open made.
func TestNil(t *testing.T) {
	for _, s := range []*serve.Server{nil, {}} {
		isDead(t, "nil", s)
		if s.Master() != nil || s.Node() != nil || s.Leads() {
			t.Errorf("a nil server tells %v, %v, %t", s.Master(), s.Node(), s.Leads())
		}
	}
}

// Promise 18.3: behind a loss of power all calls tell so, also when the disk is up again.
func TestDead(t *testing.T) {
	for _, all := range []int{1, 3} {
		d := disk.New()
		s := open(t, d, 0, all)
		s.Handle(packet(103, 0, beatSay(3, 1)))
		m, n := s.Master().Encode(), s.Node()
		d.Crash(0, 0)
		isDead(t, "without power", s)
		d.Up()
		isDead(t, "with power again", s)
		if s.Master().Encode() != m || s.Node() != n {
			t.Errorf("what it knew is another thing")
		}
		agreed(t, "another life", open(t, d, 0, 1), does(master.New(), entries(0, join(3, 1))...), 1, 0)
	}
}
