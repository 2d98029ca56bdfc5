package run_test

import (
	"slices"
	"testing"

	"cohort/agg"
	"cohort/api"
	"cohort/comb"
	"cohort/kern"
	"cohort/more"
	"cohort/mut"
	"cohort/run"
)

// The document's example.
func TestExample(t *testing.T) {
	g := of(api.Vertex{ID: 1, Edges: []api.Edge{{To: 2}}}, api.Vertex{ID: 2})
	comes(t, job("degree", g), done(g, 2, 1, 1))
}

// known is a job, its outcome as worked out by hand, and how many messages its supersteps send.
type known struct {
	j      api.Job
	steps  int
	values []int64
	sent   []int
}

func knowns() []known {
	g := small()
	return []known{
		{job("bfs", g, 1), 3, []int64{0, 1, 1, -1}, []int{2, 1, 0}},
		{job("bfs", g, 2), 2, []int64{-1, 0, 1, -1}, []int{1, 0}},
		{job("bfs", g, 4), 1, []int64{-1, -1, -1, 0}, []int{0}},
		{job("sssp", g, 1), 3, []int64{0, 5, 8, -1}, []int{2, 1, 0}},
		{job("sssp", g, 3), 1, []int64{-1, -1, 0, -1}, []int{0}},
		{job("degree", g), 2, []int64{2, 2, 2, 0}, []int{3, 0}},
		{job("pagerank", g, 0), 1, []int64{250000, 250000, 250000, 250000}, []int{0}},
		{job("pagerank", g, 1), 2, []int64{37500, 143750, 356250, 37500}, []int{3, 0}},
		{job("cc", g), 4, []int64{1, 1, 1, 4}, []int{0, 6, 4, 0}},
		{job("labels", g, 0), 1, []int64{1, 2, 3, 4}, []int{0}},
		{job("labels", g, 2), 3, []int64{1, 1, 1, 4}, []int{3, 3, 0}},
		{job("triangles", g), 3, []int64{0, 1, 0, 0}, []int{0, 1, 0}},
		{job("kcore", g, 2), 2, []int64{2, 2, 2, -1}, []int{0, 0}},
		{job("kcore", g, 3), 3, []int64{-1, -1, -1, -1}, []int{0, 6, 0}},
		{job("matching", g), 5, []int64{2, 1, 3, 4}, []int{0, 3, 4, 0, 0}},
		{job("colors", g), 6, []int64{0, 1, 2, 0}, []int{0, 3, 3, 3, 3, 0}},
	}
}

// Promise 9.1: Done, with the values and how many supersteps were done.
func TestRun(t *testing.T) {
	for _, x := range knowns() {
		want := done(small(), x.steps, x.values...)
		comes(t, x.j, want)
		for parts := 1; parts <= api.MaxParts; parts++ {
			comes(t, limited(x.j, api.MaxSteps, api.MaxSent, parts), want)
		}
	}
}

// Promise 9.1: as many supersteps as Steps are enough, if then no vertex is active, and else too few, and as many as Steps are told.
func TestRunSteps(t *testing.T) {
	for _, x := range knowns() {
		for steps := 1; steps < x.steps; steps++ {
			comes(t, limited(x.j, steps, api.MaxSent, 1), failed(api.ErrSteps, steps))
		}
		comes(t, limited(x.j, x.steps, api.MaxSent, 1), done(small(), x.steps, x.values...))
		comes(t, limited(x.j, x.steps+1, api.MaxSent, 1), done(small(), x.steps, x.values...))
	}
}

// Promise 9.1: more than Sent messages in a superstep, just as many, and which superstep it was.
func TestRunQuota(t *testing.T) {
	for _, x := range knowns() {
		for sent := range slices.Max(x.sent) + 2 {
			at := slices.IndexFunc(x.sent, func(n int) bool { return n > sent })
			want := failed(api.ErrQuota, at)
			if at < 0 {
				want = done(small(), x.steps, x.values...)
			}
			comes(t, limited(x.j, api.MaxSteps, sent, 1), want)
			if at > 0 {
				// The supersteps end ahead of the one that sends too many.
				comes(t, limited(x.j, at, sent, 1), failed(api.ErrSteps, at))
			}
			if at >= 0 {
				comes(t, limited(x.j, at+1, sent, 1), want)
			}
		}
	}
}

// Promise 9.1: a sum without room, in the first superstep in which there can be one, and later; then what was sent does not count.
func TestRunOverflow(t *testing.T) {
	g := of(
		api.Vertex{ID: 1, Edges: []api.Edge{{To: 2, Weight: 1}, {To: 3, Weight: greatest}}},
		api.Vertex{ID: 2, Edges: []api.Edge{{To: 4}, {To: 5}, {To: 6}}},
		api.Vertex{ID: 3, Edges: []api.Edge{{To: 4, Weight: 1}}},
		api.Vertex{ID: 4}, api.Vertex{ID: 5}, api.Vertex{ID: 6})
	comes(t, job("sssp", g, 1), failed(api.ErrOverflow, 1))
	comes(t, limited(job("sssp", g, 1), 9, 2, 1), failed(api.ErrOverflow, 1))
	comes(t, limited(job("sssp", g, 1), 9, 1, 1), failed(api.ErrQuota, 0))
	comes(t, limited(job("sssp", g, 1), 1, 9, 1), failed(api.ErrSteps, 1))
	comes(t, limited(job("sssp", g, 1), 2, 9, 1), failed(api.ErrOverflow, 1))
	comes(t, job("sssp", g, 3), done(g, 2, -1, -1, 0, 1, -1, -1))
	comes(t, job("bfs", g, 1), done(g, 3, 0, 1, 1, 2, 2, 2))
	long := of(
		api.Vertex{ID: 1, Edges: []api.Edge{{To: 2, Weight: 1}}},
		api.Vertex{ID: 2, Edges: []api.Edge{{To: 3, Weight: greatest - 1}}},
		api.Vertex{ID: 3, Edges: []api.Edge{{To: 1, Weight: 0}}})
	comes(t, job("sssp", long, 1), done(long, 4, 0, 1, greatest))
	long.Vertices[2].Edges[0].Weight = 1
	comes(t, job("sssp", long, 1), failed(api.ErrOverflow, 2))
}

// Promise 9.1: without vertices none is active, so nothing is done.
func TestRunEmpty(t *testing.T) {
	for _, name := range []string{"cc", "colors", "degree", "matching", "triangles"} {
		comes(t, limited(job(name, api.Graph{}), 1, 0, 1), api.Outcome{Kind: api.Done})
	}
	for _, name := range []string{"pagerank", "labels", "kcore"} {
		comes(t, limited(job(name, of(), 1), 1, 0, 16), api.Outcome{Kind: api.Done})
	}
}

// Promise 9.1: a job that may not be tells the error, and an outcome that is all zero.
func TestRunBad(t *testing.T) {
	for _, x := range bads() {
		before := cloneJob(x.j)
		o, e := run.Run(x.j)
		if e != x.err || !equal(o, api.Outcome{}) {
			t.Errorf("%s, %s %v: %v with error %d, not %d", x.name, x.j.Program, x.j.Params, o, e, x.err)
		}
		if !sameJob(x.j, before) {
			t.Errorf("%s: the job was changed", x.name)
		}
	}
}

// defined is the outcome as the document has it, by lists alone, whatever Run does.
func defined(j api.Job) api.Outcome {
	g, _ := mut.Apply(j.Graph, nil)
	var mail []api.Message
	var asleep []int64
	before := api.Aggregate{}
	for step := 0; ; step++ {
		awake := false
		for _, v := range g.Vertices {
			awake = awake || !slices.Contains(asleep, v.ID) || len(for1(mail, v.ID)) > 0
		}
		if !awake {
			o := api.Outcome{Kind: api.Done, Steps: step}
			for _, v := range g.Vertices {
				o.Values = append(o.Values, api.Value{ID: v.ID, V: v.Value})
			}
			return o
		}
		if step == j.Steps {
			return failed(api.ErrSteps, step)
		}
		var sent []api.Message
		var asked []api.Mutation
		gave := api.Aggregate{}
		for i, v := range g.Vertices {
			halted, mine := slices.Contains(asleep, v.ID), for1(mail, v.ID)
			if halted && len(mine) == 0 {
				continue
			}
			mine, e := comb.Combine(kern.Combiner(j.Program), mine)
			out := more.Step(j.Program, api.Input{Step: step, Vertex: v, Halted: halted, Messages: mine, Before: before, Many: len(g.Vertices), Params: j.Params})
			both, full := agg.Merge(gave, out.Agg)
			if e != api.OK || out.Err != api.OK || full != api.OK {
				return failed(api.ErrOverflow, step)
			}
			asleep = slices.DeleteFunc(asleep, func(id int64) bool { return id == v.ID })
			if out.Halt {
				asleep = append(asleep, v.ID)
			}
			gave, g.Vertices[i].Value = both, out.Value
			sent, asked = append(sent, out.Sent...), append(asked, out.Mutations...)
		}
		if len(sent) > j.Sent {
			return failed(api.ErrQuota, step)
		}
		g, _ = mut.Apply(g, asked)
		mail, before = sent, gave
	}
}

// for1 is the messages of one vertex, in order.
func for1(mail []api.Message, id int64) []api.Message {
	l := slices.DeleteFunc(slices.Clone(mail), func(m api.Message) bool { return m.To != id })
	slices.SortFunc(l, comb.Compare)
	return l
}

// Promise 9.1: all programs, many graphs, limits that are met and that are not.
func TestRunMany(t *testing.T) {
	for _, g := range graphs() {
		for _, j := range jobs(g) {
			for _, n := range [][2]int{{api.MaxSteps, api.MaxSent}, {3, api.MaxSent}, {api.MaxSteps, 5}, {1, 0}, {5, 60}} {
				j = limited(j, n[0], n[1], 1)
				comes(t, j, defined(j))
			}
		}
	}
}

// Promise 9.1: as great as a graph may be.
func TestRunGreat(t *testing.T) {
	for _, j := range jobs(fullest()) {
		if j.Program == "triangles" {
			// More than MaxSent messages tell of pairs.
			comes(t, j, failed(api.ErrQuota, 1))
			continue
		}
		comes(t, j, defined(j))
	}
}

// Promise 9.3: the same job twice, one that was changed between, and an answer that was.
func TestRunAgain(t *testing.T) {
	for _, g := range graphs() {
		for _, j := range jobs(g) {
			kept := cloneJob(j)
			first, e := run.Run(j)
			second, f := run.Run(j)
			if e != api.OK || f != api.OK || !equal(first, second) {
				t.Fatalf("%s: %v, then %v, errors %d, %d", j.Program, first, second, e, f)
			}
			for i := range first.Values {
				first.Values[i] = api.Value{ID: -99, V: -99}
			}
			other := cloneJob(j)
			third, _ := run.Run(other)
			spoilJob(other)
			if !equal(second, third) || !sameJob(j, kept) {
				t.Fatalf("%s: what was done to an answer or a job is to be seen", j.Program)
			}
		}
	}
}

// Promise 9.1: outcomes that differ in each field.
func TestSame(t *testing.T) {
	l := []api.Outcome{{}, {Kind: 1}, {Kind: 2}, {Kind: -1}, {Err: 90}, {Err: -90}, {Kind: 2, Err: 90}, {Kind: 2, Err: 91}, {Steps: 1}, {Steps: -1}, {Kind: 2, Err: 91, Steps: 1},
		{Values: []api.Value{{}}}, {Values: []api.Value{{ID: 1}}}, {Values: []api.Value{{V: 1}}}, {Values: []api.Value{{ID: 1, V: 1}}}, {Values: []api.Value{{}, {}}},
		{Values: []api.Value{{ID: 1}, {ID: 2}}}, {Values: []api.Value{{ID: 2}, {ID: 1}}}, {Values: []api.Value{{ID: 1}, {ID: 2, V: 1}}}, {Values: []api.Value{{ID: 1}, {ID: 2}, {ID: 3}}},
		{Kind: 1, Steps: 2, Values: []api.Value{{ID: 1, V: 1}, {ID: 2, V: 1}}}, {Kind: 1, Steps: 3, Values: []api.Value{{ID: 1, V: 1}, {ID: 2, V: 1}}}}
	for i, a := range l {
		for k, b := range l {
			b.Values = slices.Clone(b.Values)
			if got := run.Same(a, b); got != (i == k) {
				t.Errorf("%v and %v: %v", a, b, got)
			}
		}
	}
	// A list that is empty and one that is nil are the same.
	if !run.Same(api.Outcome{Kind: 1}, api.Outcome{Kind: 1, Values: []api.Value{}}) || !run.Same(api.Outcome{Values: []api.Value{}}, api.Outcome{}) {
		t.Error("an empty list is another one than nil")
	}
}
