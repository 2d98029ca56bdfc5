package wal_test

import (
	"fmt"
	"math/rand"
	"slices"
	"strings"
	"testing"

	"cohort/api"
	"cohort/disk"
	"cohort/wal"
)

// step is one thing that happens to a log and its disk.
type step struct {
	do      string
	snap    string
	records []string
	at      int // of a fall: how many changes ahead
	keep    int
	torn    int
}

// walker goes through steps, and keeps what the log has told.
type walker struct {
	t    *testing.T
	walk []step
	d    *disk.Disk
	l    *wal.Log
	told state
}

// newWalker is a walker with an empty log.
func newWalker(t *testing.T) *walker {
	d := disk.New()
	return &walker{t: t, d: d, l: opened(t, "an empty disk", d, 0)}
}

// begun is a state with each number of more records, from none on.
func (s state) begun(records []string) []state {
	may := []state{}
	for n := range len(records) + 1 {
		may = append(may, s.with(records[:n]...))
	}
	return may
}

// again turns the power on as often as falls strike, and opens what is there, which must be one of some states.
func (w *walker) again(may []state) {
	w.t.Helper()
	what := fmt.Sprint("behind ", w.walk)
	for {
		up(w.t, what, w.d)
		s, _ := w.d.Read("log")
		l, torn, e := wal.Open(w.d)
		if e == api.ErrDead && l == nil && torn == 0 {
			continue
		}
		fine(w.t, e)
		w.l = l
		got := taken(l)
		if !slices.ContainsFunc(may, got.is) || torn != max(len(s)-len(got.bytes()), 0) {
			w.t.Fatalf("%s: %q, of which %d bytes are torn", what, got, torn)
		}
		w.told = got
		return
	}
}

// calls does a call that comes to a state, or to one of some when the power fails in it.
func (w *walker) calls(e api.Errno, to state, may []state) {
	w.t.Helper()
	if e == api.OK {
		w.told = to
		return
	}
	dies(w.t, fmt.Sprint("behind ", w.walk), w.d, e)
	has(w.t, fmt.Sprint("behind ", w.walk), w.l, w.told)
	w.again(may)
}

// goes does a step, and looks at all that is there.
func (w *walker) goes(x step) {
	w.t.Helper()
	w.walk = append(w.walk, x)
	switch x.do {
	case "Add":
		w.calls(w.l.Add(x.records...), w.told.with(x.records...), w.told.begun(x.records))
	case "Reset":
		to := of(x.snap, x.records...)
		w.calls(w.l.Reset(x.snap, x.records), to, []state{w.told, to})
	case "Plan":
		w.d.Plan([]api.Fall{{At: w.d.Changes() + x.at, Keep: x.keep, Torn: x.torn}})
	case "Crash":
		w.d.Crash(x.keep, x.torn)
		w.again([]state{w.told})
	case "Crash in Add":
		w.d.Append("log", frames(x.records...))
		w.d.Crash(x.keep, x.torn)
		w.again(w.told.begun(x.records))
	case "Crash in Reset":
		to := of(x.snap, x.records...)
		w.d.Write("fresh", to.bytes())
		w.d.Move("fresh", "log")
		w.d.Crash(x.keep, x.torn)
		w.again([]state{w.told, to})
	}
	has(w.t, fmt.Sprint("behind ", w.walk), w.l, w.told)
	holds(w.t, fmt.Sprint("behind ", w.walk), w.d, w.told.bytes())
}

// fewSteps is steps of each kind.
func fewSteps() []step {
	return []step{
		{do: "Add"},
		{do: "Add", records: []string{"a", ""}},
		{do: "Reset", snap: "s"},
		{do: "Reset", records: []string{"b"}},
		{do: "Plan"},
		{do: "Plan", at: 1, keep: 1, torn: 3},
		{do: "Crash"},
		{do: "Crash in Add", records: []string{"c", "d"}, torn: 8},
		{do: "Crash in Reset", snap: "t", records: []string{"e"}, torn: 7},
		{do: "Crash in Reset", snap: "u", records: []string{"f"}, keep: 2},
	}
}

// Promises 12.1, 12.2: all walks of up to four steps.
func TestAllWalks(t *testing.T) {
	var onward func(walk []step)
	onward = func(walk []step) {
		w := newWalker(t)
		for _, x := range walk {
			w.goes(x)
		}
		if len(walk) == 4 {
			return
		}
		for _, x := range fewSteps() {
			onward(append(slices.Clone(walk), x))
		}
	}
	onward(nil)
}

// anyStep is a step that chance picks.
func anyStep(r *rand.Rand) step {
	kinds := []string{"Add", "Add", "Add", "Add", "Reset", "Plan", "Crash", "Crash in Add", "Crash in Reset"}
	text := func() string { return strings.Repeat(string(rune('a'+r.Intn(26))), r.Intn(5)) }
	x := step{do: kinds[r.Intn(len(kinds))], snap: text(), at: r.Intn(4), keep: r.Intn(4) - 1, torn: r.Intn(30) - 1}
	for range r.Intn(4) {
		x.records = append(x.records, text())
	}
	return x
}

// Promises 12.1, 12.2: long walks.
func TestLongWalks(t *testing.T) {
	for seed := range int64(300) {
		r := rand.New(rand.NewSource(seed))
		w := newWalker(t)
		for range 60 {
			w.goes(anyStep(r))
		}
	}
}
