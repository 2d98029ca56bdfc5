package master_test

import (
	"testing"

	"cohort/api"
	"cohort/master"
)

// forged is a master as bytes, part by part, to be changed: two workers, and a job that runs.
type forged struct {
	workers                  []int // all in life 1
	epoch                    int
	many                     int    // jobs ahead of the one that runs,
	ahead                    string // and their bytes
	inEpoch, step, phase     int
	keptStep, keptEpoch      int
	has                      []int
	reported                 []bool
	keptBefore, before, gave api.Aggregate
}

func forge() forged {
	return forged{workers: []int{2, 4}, epoch: 3, inEpoch: 3, step: 5, phase: api.PhaseCompute, keptStep: 4, keptEpoch: 2,
		has: []int{2, 4}, reported: []bool{true, false}}
}

// bytes lays all of it.
func (f forged) bytes() string {
	s := "\x00" + number(len(f.workers))
	for _, w := range f.workers {
		s += number(w) + signed(1)
	}
	return s + row(f.epoch, f.many+1) + f.ahead + f.job()
}

// job lays the job that runs, of 9 supersteps and 3 partitions.
func (f forged) job() string {
	s := number(api.Running) + text(spec(9, 9, 3)) + row(f.inEpoch, f.step, f.phase, 0)
	s += laidAggregate(f.before) + laidAggregate(f.gave) + row(f.keptStep, f.keptEpoch) + laidAggregate(f.keptBefore)
	s += number(len(f.has)) + row(f.has...)
	for _, yes := range f.reported {
		if yes {
			s += "\x01" + row(0, 0, 0, 0) + laidAggregate(api.Aggregate{}) + number(0)
		} else {
			s += "\x00"
		}
	}
	return s
}

// Promise 17.3: bytes of the form of a master that no commands could have made are none: what is decoded could not go on as others do.
func TestForged(t *testing.T) {
	if m, e := master.Decode(forge().bytes()); e != api.OK {
		t.Fatalf("as it may be: error %d", e)
	} else {
		stands(t, "as it may be", m, runs(1, 5, 3))
		idle(t, "it has reported", m, 2)
		phase(t, "it has not", m, 4, 3, 5, api.PhaseCompute)
	}
	for what, change := range map[string]func(f *forged){
		"no phase":                             func(f *forged) { f.phase = 0 },
		"no epoch":                             func(f *forged) { f.inEpoch = 0; f.keptStep, f.keptEpoch = 0, 0 },
		"an epoch that did not begin":          func(f *forged) { f.inEpoch = 4 },
		"a superstep beyond Steps":             func(f *forged) { f.step = 10 },
		"to compute the last superstep":        func(f *forged) { f.step = 9 },
		"to close the last superstep":          func(f *forged) { f.step, f.phase = 9, api.PhaseClose },
		"a checkpoint ahead":                   func(f *forged) { f.keptStep = 8 },
		"a checkpoint of an epoch ahead":       func(f *forged) { f.keptEpoch = 4 },
		"a checkpoint of no epoch":             func(f *forged) { f.keptEpoch = 0 },
		"a checkpoint of another superstep":    func(f *forged) { f.keptStep = 3 },
		"no checkpoint, of an epoch":           func(f *forged) { f.keptStep = 0 },
		"no checkpoint, with an aggregate":     func(f *forged) { f.keptStep, f.keptEpoch, f.keptBefore = 0, 0, full() },
		"all have reported":                    func(f *forged) { f.reported = []bool{true, true} },
		"partitions of a worker that is gone":  func(f *forged) { f.workers = []int{2} },
		"no partitions, with workers there":    func(f *forged) { f.has, f.reported = nil, nil },
		"partitions of workers that fall":      func(f *forged) { f.has = []int{4, 2} },
		"partitions of a worker twice":         func(f *forged) { f.has = []int{2, 2} },
		"more workers that have one than are":  func(f *forged) { f.workers, f.has, f.reported = []int{2, 4, 6, 8}, []int{2, 4, 6, 8}, make([]bool, 4) },
		"an end without an outcome":            func(f *forged) { f.many, f.ahead = 1, number(api.Ended)+text(spec(9, 9, 1))+"\x00\x00\x00\x00" },
		"another one that runs, and is as new": func(f *forged) { f.many, f.ahead = 1, forge().job() },
	} {
		f := forge()
		change(&f)
		refused(t, what, f.bytes(), api.ErrForm)
	}
	for what, change := range map[string]func(f *forged){
		"no partitions, without workers": func(f *forged) { f.workers, f.has, f.reported = nil, nil, nil },
		"no checkpoint":                  func(f *forged) { f.keptStep, f.keptEpoch = 0, 0 },
		"the last superstep, to be read": func(f *forged) { f.step, f.phase = 9, api.PhaseCollect },
		"the last superstep, to be told": func(f *forged) { f.step, f.phase = 9, api.PhaseLoad },
		"a worker more":                  func(f *forged) { f.workers = []int{2, 4, 63} },
		"an end ahead of it":             func(f *forged) { f.many, f.ahead = 1, number(api.Ended)+text(spec(9, 9, 1))+"\x01\x00\x00\x00" },
	} {
		f := forge()
		change(&f)
		if m, e := master.Decode(f.bytes()); e != api.OK || m.Encode() != f.bytes() {
			t.Errorf("%s: error %d, or other bytes", what, e)
		}
	}
}

// Promise 17.3: sessions that were told what no master tells.
func TestForgedSessions(t *testing.T) {
	for _, told := range []string{"", "\x00", "\x00\x01\x02", "\x80\x00\x00", "\xff"} {
		m, e := master.Decode("\x01" + signed(1) + row(1, len(told)) + told + "\x00\x00\x00")
		if e != api.OK {
			continue
		}
		if a, ok, e := m.Look(1, 1); a != (api.Reply{}) || !ok || e != api.OK {
			t.Errorf("%q: %v, %v, error %d", told, a, ok, e)
		}
		asks(t, "again", m, submit(1, 1, "no"), api.Reply{}, api.OK)
		again(t, "such a session", m)
	}
}
