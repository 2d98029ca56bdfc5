package run_test

import (
	"math"
	"slices"
	"testing"

	"cohort/api"
	"cohort/comb"
	"cohort/graph"
	"cohort/run"
)

func msg(to, from int64, at int, v int64) api.Message {
	return api.Message{To: to, From: from, At: at, V: v}
}

// says is messages to a vertex that say something, each from another one.
func says(to int64, v ...int64) []api.Message {
	var l []api.Message
	for i, n := range v {
		l = append(l, msg(to, 100+int64(i), i, n))
	}
	return l
}

// partOf is a part with vertices, of which some have halted, and messages.
func partOf(g api.Graph, halted []int64, mail ...api.Message) *run.Part {
	p := run.NewPart(g)
	for _, id := range halted {
		p.Halted[id] = true
	}
	p.Box.Put(mail...)
	return p
}

// stands tells whether a part has vertices, those that have halted, and messages.
func stands(t *testing.T, what string, p *run.Part, g api.Graph, halted []int64, mail ...api.Message) {
	t.Helper()
	if !graph.Same(p.G, g) {
		t.Errorf("%s: the graph is %v, not %v", what, p.G, g)
	}
	var asleep []int64
	for id, yes := range p.Halted {
		if yes {
			asleep = append(asleep, id)
		}
	}
	slices.Sort(asleep)
	if !slices.Equal(asleep, halted) {
		t.Errorf("%s: %v have halted, not %v", what, asleep, halted)
	}
	if got := slices.Collect(p.Box.All()); !slices.Equal(got, mail) {
		t.Errorf("%s: the messages are %v, not %v", what, got, mail)
	}
}

// steps does a superstep that has no error.
func steps(t *testing.T, p *run.Part, j api.Job, step, many int, before api.Aggregate) ([]api.Message, []api.Mutation, api.Aggregate) {
	t.Helper()
	sent, asked, gave, e := p.Step(j, step, many, before)
	if e != api.OK {
		t.Errorf("%s, superstep %d: error %d", j.Program, step, e)
	}
	return sent, asked, gave
}

// laid is the small graph with other values.
func laid(values ...int64) api.Graph {
	g := small()
	for i, v := range values {
		g.Vertices[i].Value = v
	}
	return g
}

// Promise 9.2: none has halted, there are no messages, and all are active.
func TestNewPart(t *testing.T) {
	for _, g := range append(graphs(), api.Graph{}, of(), of(vertex(1, 0, 9))) {
		p := run.NewPart(g)
		stands(t, "new", p, g, nil)
		if n := p.Active(); n != len(g.Vertices) {
			t.Errorf("%d of %d are active", n, len(g.Vertices))
		}
	}
}

// Promise 9.2, R2: what is handed in is not kept.
func TestNewPartOwn(t *testing.T) {
	g := small()
	p := run.NewPart(g)
	spoilGraph(g)
	stands(t, "once the graph was changed", p, small(), nil)
	g = small()
	p = run.NewPart(g)
	for step, l := range [][]api.Mutation{{{Kind: api.MutAddEdge, ID: 1, To: 4}}, {{Kind: api.MutRemoveVertex, ID: 1}}} {
		steps(t, p, job("degree", g), step, 4, api.Aggregate{})
		p.Close(nil, l)
	}
	spoilGraph(p.G)
	if !graph.Same(g, small()) {
		t.Errorf("the graph became %v", g)
	}
}

// Promise 9.2: a vertex that has not halted, or has messages; those of others don't count.
func TestActive(t *testing.T) {
	for _, x := range []struct {
		halted []int64
		mail   []api.Message
		want   int
	}{
		{nil, nil, 4},
		{[]int64{2}, nil, 3},
		{[]int64{1, 2, 3, 4}, nil, 0},
		{[]int64{1, 2, 3, 4}, says(3, 7), 1},
		{[]int64{1, 2, 3, 4}, says(3, 7, 8, 9), 1},
		{[]int64{1, 2, 3, 4}, append(says(3, 7), says(1, 0)...), 2},
		{[]int64{1, 2}, append(says(3, 7), says(1, 0)...), 3},
		{[]int64{1, 2}, says(3, 7), 2},
		{[]int64{1, 2, 3, 4}, says(5, 7), 0},
		{[]int64{1, 2, 3, 4, 5, 6}, append(says(5, 7), says(0, 3)...), 0},
		{[]int64{5, -1, 0}, nil, 4},
		{nil, says(5, 7), 4},
	} {
		p := partOf(small(), x.halted, x.mail...)
		if n := p.Active(); n != x.want {
			t.Errorf("%v have halted, messages %v: %d are active, not %d", x.halted, x.mail, n, x.want)
		}
	}
	p := partOf(small(), []int64{1, 2, 3, 4})
	p.Halted[3] = false
	if n := p.Active(); n != 1 {
		t.Errorf("one that has not halted, as the map says: %d are active", n)
	}
}

// Promise 9.2: what was sent and asked for, in the order of the vertices, the aggregate, and what is laid at once.
func TestStep(t *testing.T) {
	p := run.NewPart(small())
	sent, asked, gave := steps(t, p, job("degree", small()), 0, 4, api.Aggregate{})
	if want := []api.Message{msg(2, 1, 0, 1), msg(3, 1, 1, 1), msg(3, 2, 0, 1)}; !slices.Equal(sent, want) {
		t.Errorf("%v were sent, not %v", sent, want)
	}
	want := api.Aggregate{}
	want.Has[api.AggSum], want.V[api.AggSum], want.Has[api.AggMax], want.V[api.AggMax] = true, 3, true, 2
	if len(asked) != 0 || gave != want {
		t.Errorf("asked for %v, gave %v, not %v", asked, gave, want)
	}
	stands(t, "degree", p, laid(2, 1, 0, 0), []int64{1, 2, 3, 4})

	p = run.NewPart(small())
	sent, asked, gave = steps(t, p, job("cc", small()), 0, 4, api.Aggregate{})
	back := func(id, to int64) api.Mutation { return api.Mutation{Kind: api.MutAddEdge, ID: id, To: to} }
	if want := []api.Mutation{back(2, 1), back(3, 1), back(3, 2)}; !slices.Equal(asked, want) {
		t.Errorf("asked for %v, not %v", asked, want)
	}
	if len(sent) != 0 || gave != (api.Aggregate{}) {
		t.Errorf("sent %v, gave %v", sent, gave)
	}
	stands(t, "cc", p, laid(1, 2, 3, 4), nil)
	sent, asked, _ = steps(t, p, job("cc", small()), 1, 4, api.Aggregate{})
	if want := []api.Message{msg(2, 1, 0, 1), msg(3, 1, 1, 1), msg(3, 2, 0, 2)}; !slices.Equal(sent, want) || len(asked) != 0 {
		t.Errorf("%v were sent, not %v; asked for %v", sent, want, asked)
	}
	stands(t, "cc, not closed between", p, laid(1, 2, 3, 4), []int64{1, 2, 3, 4})
}

// Promise 9.2: only active vertices do something: those that have halted and have messages do, and may go on.
func TestStepActive(t *testing.T) {
	p := partOf(small(), []int64{1, 2, 4}, says(2, 5)...)
	sent, asked, gave := steps(t, p, job("degree", small()), 0, 4, api.Aggregate{})
	if !slices.Equal(sent, []api.Message{msg(3, 2, 0, 1)}) || len(asked) != 0 || gave.V[api.AggSum] != 1 {
		t.Errorf("sent %v, asked for %v, gave %v", sent, asked, gave)
	}
	stands(t, "two of four", p, laid(70, 1, 0, -1), []int64{1, 2, 3, 4})

	p = partOf(small(), []int64{1, 2, 3, 4}, says(2, 5)...)
	steps(t, p, job("labels", small(), 9), 1, 4, api.Aggregate{})
	stands(t, "one that goes on", p, laid(70, 5, 700, -1), []int64{1, 3, 4})

	p = partOf(small(), []int64{1, 2, 3, 4}, says(7, 5)...)
	sent, asked, gave = steps(t, p, job("degree", small()), 0, 4, api.Aggregate{})
	if len(sent) != 0 || len(asked) != 0 || gave != (api.Aggregate{}) {
		t.Errorf("none is active: sent %v, asked for %v, gave %v", sent, asked, gave)
	}
	stands(t, "none, and a message for one that is not there, which is gone", p, small(), []int64{1, 2, 3, 4})
}

// Promise 9.2: messages come combined, or all of them where there is no combiner; then all are gone.
func TestStepMessages(t *testing.T) {
	mail := slices.Concat(says(3, 4, 4, 9), says(1, 8, 6), says(2, 0), says(9, 1), says(-9, 1, 2))
	for _, x := range []struct {
		j    api.Job
		want []int64
	}{
		{job("degree", small()), []int64{84, -70, 717, -1}},
		{job("sssp", small(), 1), []int64{6, 0, 4, -1}},
		{job("bfs", small(), 1), []int64{70, 2, 700, 2}},
		{job("cc", small()), []int64{6, -70, 4, -1}},
		{job("labels", small(), 1), []int64{6, 0, 4, -1}},
		{job("colors", small()), []int64{0, 1, 0, 0}},
		{job("pagerank", small(), 0), []int64{37511, 37500, 37514, 37500}},
		{job("kcore", small(), 1), []int64{56, -70, 683, -1}},
		{job("triangles", small()), []int64{0, 0, 0, 0}},
	} {
		p := partOf(small(), nil, mail...)
		steps(t, p, x.j, 2, 4, api.Aggregate{})
		var got []int64
		for _, v := range p.Values() {
			got = append(got, v.V)
		}
		if !slices.Equal(got, x.want) || p.Box.Len() != 0 {
			t.Errorf("%s: %v, not %v, and %d messages are left", x.j.Program, got, x.want, p.Box.Len())
		}
	}
}

// Promise 9.2: the number of the superstep, how many vertices there are, the aggregate ahead, and the parameters are handed on.
func TestStepGiven(t *testing.T) {
	for many, want := range map[int]int64{4: 250000, 8: 125000, 1: api.Scale, 0: api.Scale, -3: api.Scale, math.MinInt: api.Scale, math.MaxInt: 0} {
		p := run.NewPart(small())
		steps(t, p, job("pagerank", small(), 0), 0, many, api.Aggregate{})
		stands(t, "of so many", p, laid(want, want, want, want), []int64{1, 2, 3, 4})
	}
	for turns, halted := range map[int64][]int64{0: {1, 2, 3, 4}, 3: {1, 2, 3, 4}, 4: nil} {
		p := run.NewPart(small())
		steps(t, p, job("labels", small(), turns), 3, 4, api.Aggregate{})
		stands(t, "turns", p, small(), halted)
	}
	for or, halted := range map[int64][]int64{0: {1, 2, 3, 4}, 1: nil} {
		before := api.Aggregate{}
		before.Has[api.AggOr], before.V[api.AggOr] = true, or
		p := run.NewPart(small())
		steps(t, p, job("colors", small()), 2, 4, before)
		stands(t, "ahead", p, laid(0, 0, 0, 0), halted)
	}
}

// Promise 9.2: the first error ends a superstep, and nothing is told; vertices ahead of it have laid what they did.
func TestStepError(t *testing.T) {
	heavy := small()
	heavy.Vertices[1].Edges[0].Weight = greatest
	mail := slices.Concat(says(1, 4), says(2, 1), says(3, 5))
	for _, x := range []struct {
		name string
		j    api.Job
		p    *run.Part
		ids  []int64
		want []int64
	}{
		{"the combiner's", job("degree", small()), partOf(small(), nil, says(2, greatest, 1)...), []int64{1}, []int64{70, -70, 700, -1}},
		{"the combiner's, below", job("degree", small()), partOf(small(), nil, append(says(1, 3), says(3, least, -1, 1)...)...), []int64{1, 2}, []int64{73, -70, 700, -1}},
		{"the combiner's, at the first", job("kcore", small(), 1), partOf(small(), nil, says(1, greatest, greatest)...), nil, []int64{70, -70, 700, -1}},
		{"the program's", job("degree", small()), partOf(small(), nil, says(1, greatest)...), nil, []int64{70, -70, 700, -1}},
		{"the program's, later", job("sssp", heavy, 1), partOf(heavy, nil, mail...), []int64{1}, []int64{4, -70, 700, -1}},
		{"no program", job("none", small()), run.NewPart(small()), nil, []int64{70, -70, 700, -1}},
		{"no program at all", api.Job{}, run.NewPart(small()), nil, []int64{70, -70, 700, -1}},
	} {
		sent, asked, gave, e := x.p.Step(x.j, 1, 4, api.Aggregate{})
		if e != api.ErrOverflow || len(sent) != 0 || len(asked) != 0 || gave != (api.Aggregate{}) {
			t.Errorf("%s: sent %v, asked for %v, gave %v, error %d", x.name, sent, asked, gave, e)
		}
		var got, halted []int64
		for _, v := range x.p.Values() {
			got = append(got, v.V)
			if x.p.Halted[v.ID] {
				halted = append(halted, v.ID)
			}
		}
		if !slices.Equal(got, x.want) || !slices.Equal(halted, x.ids) {
			t.Errorf("%s: %v, not %v; %v have halted, not %v", x.name, got, x.want, halted, x.ids)
		}
	}
	// Messages are combined even where the program does not look at them.
	for _, x := range []struct {
		j    api.Job
		step int
		want api.Errno
	}{
		{job("degree", small()), 0, api.ErrOverflow},
		{job("kcore", small(), 1), 2, api.ErrOverflow},
		{job("pagerank", small(), 1), 0, api.ErrOverflow},
		{job("sssp", small(), 1), 0, api.OK},
		{job("labels", small(), 1), 1, api.OK},
		{job("matching", small()), 0, api.OK},
	} {
		if _, _, _, e := partOf(small(), nil, says(2, greatest, 1)...).Step(x.j, x.step, 4, api.Aggregate{}); e != x.want {
			t.Errorf("%s, superstep %d: error %d, not %d", x.j.Program, x.step, e, x.want)
		}
	}
	// One that is not active comes to no error.
	p := partOf(small(), []int64{1, 2, 3, 4})
	if _, _, _, e := p.Step(job("none", small()), 0, 4, api.Aggregate{}); e != api.OK {
		t.Errorf("no program, and none is active: error %d", e)
	}
}

// Promise 9.2, R1: no arguments make it panic.
func TestStepAny(t *testing.T) {
	full := api.Aggregate{}
	for kind := range api.Aggs {
		full.Has[kind], full.V[kind] = true, greatest
	}
	for _, name := range append(all(), strangers()...) {
		for _, step := range []int{math.MinInt, -1, 0, 1, 2, 3, 1 << 40, math.MaxInt} {
			for _, params := range [][]int64{nil, {least}, {3, 4, 5}} {
				for _, before := range []api.Aggregate{{}, full} {
					p := partOf(small(), []int64{3}, slices.Concat(says(1, least, greatest), says(3, 1, 1))...)
					sent, asked, gave, e := p.Step(job(name, api.Graph{}, params...), step, step, before)
					if e != api.OK && (e != api.ErrOverflow || len(sent) != 0 || len(asked) != 0 || gave != (api.Aggregate{})) {
						t.Errorf("%s: sent %v, asked for %v, gave %v, error %d", name, sent, asked, gave, e)
					}
				}
			}
		}
	}
}

// R2: what is handed in is as it was, and what is told is the caller's own.
func TestStepOwn(t *testing.T) {
	for _, j := range jobs(small()) {
		kept := cloneJob(j)
		one, two := run.NewPart(small()), run.NewPart(small())
		for step := range 4 {
			sent, asked, _ := steps(t, one, j, step, 4, api.Aggregate{})
			again, more, _ := steps(t, two, j, step, 4, api.Aggregate{})
			one.Close(sent, asked)
			two.Close(again, more)
			if !slices.Equal(sent, again) || !slices.Equal(asked, more) {
				t.Errorf("%s, superstep %d: %v and %v, %v and %v", j.Program, step, sent, again, asked, more)
			}
			for i := range sent {
				sent[i] = msg(-99, -99, -99, -99)
			}
			for i := range asked {
				asked[i] = api.Mutation{Kind: api.MutRemoveVertex, ID: 1}
			}
			if !graph.Same(one.G, two.G) || !slices.Equal(slices.Collect(one.Box.All()), slices.Collect(two.Box.All())) {
				t.Errorf("%s, superstep %d: %v and %v, once an answer was changed", j.Program, step, one.G, two.G)
			}
		}
		if !sameJob(j, kept) {
			t.Errorf("%s: the job became %v", j.Program, j)
		}
	}
}

// Promise 9.2: requests are done, and how many changed something.
func TestCloseRequests(t *testing.T) {
	p := partOf(small(), []int64{1, 2})
	asked := []api.Mutation{
		{Kind: api.MutAddEdge, ID: 4, To: 1, V: 5},
		{Kind: api.MutAddEdge, ID: 4, To: 1, V: 3},
		{Kind: api.MutAddEdge, ID: 9, To: 1, V: 3},
		{Kind: api.MutRemoveEdge, ID: 1, To: 2},
		{Kind: api.MutRemoveEdge, ID: 1, To: 4},
		{Kind: api.MutAddVertex, ID: 7, V: 77},
		{Kind: api.MutAddVertex, ID: 3, V: 77},
		{Kind: api.MutRemoveVertex, ID: 8},
		{Kind: 9, ID: 1},
	}
	kept := slices.Clone(asked)
	if n := p.Close(nil, asked); n != 3 {
		t.Errorf("%d requests changed something, not 3", n)
	}
	g := small()
	g.Vertices[0].Edges = g.Vertices[0].Edges[1:]
	g.Vertices[3].Edges = []api.Edge{{To: 1, Weight: 3}}
	g.Vertices = append(g.Vertices, api.Vertex{ID: 7, Value: 77})
	stands(t, "behind requests", p, g, []int64{1, 2})
	if !slices.Equal(asked, kept) {
		t.Errorf("the requests became %v", asked)
	}
	if n := p.Close(nil, asked); n != 0 {
		t.Errorf("%d requests changed something the second time", n)
	}
	if n := p.Close(nil, nil); n != 0 {
		t.Errorf("%d of no requests changed something", n)
	}
	stands(t, "behind them again", p, g, []int64{1, 2})
}

// Promise 9.2: messages come behind the requests, to those that are there then.
func TestCloseMessages(t *testing.T) {
	p := partOf(small(), []int64{1, 2, 3, 4})
	sent := []api.Message{msg(7, 1, 0, 1), msg(4, 2, 0, 2), msg(1, 4, 1, 6), msg(8, 1, 0, 3), msg(1, 4, 0, 4), msg(2, 9, 0, 5), msg(1, 3, 0, 7), msg(1, 3, 0, 7)}
	kept := slices.Clone(sent)
	asked := []api.Mutation{{Kind: api.MutAddVertex, ID: 7, V: 77}, {Kind: api.MutRemoveVertex, ID: 2}}
	if n := p.Close(sent, asked); n != 2 {
		t.Errorf("%d requests changed something, not 2", n)
	}
	if !slices.Equal(sent, kept) {
		t.Errorf("the messages became %v", sent)
	}
	g := small()
	g.Vertices = append(slices.Delete(g.Vertices, 1, 2), api.Vertex{ID: 7, Value: 77})
	want := []api.Message{msg(1, 3, 0, 7), msg(1, 3, 0, 7), msg(1, 4, 0, 4), msg(1, 4, 1, 6), msg(4, 2, 0, 2), msg(7, 1, 0, 1)}
	stands(t, "one came, and one went", p, g, []int64{1, 3, 4}, want...)
	if n := p.Active(); n != 3 {
		t.Errorf("%d are active, not 3", n)
	}
	for i := range sent {
		sent[i] = msg(-99, -99, -99, -99)
	}
	stands(t, "once the messages were changed", p, g, []int64{1, 3, 4}, want...)
	p.Close([]api.Message{msg(3, 0, 0, 0), msg(2, 0, 0, 0)}, nil)
	stands(t, "more of them", p, g, []int64{1, 3, 4}, slices.Insert(want, 4, msg(3, 0, 0, 0))...)
}

// Promise 9.2: one that went and comes again has not begun, whether at once or later.
func TestCloseAgain(t *testing.T) {
	gone, back := api.Mutation{Kind: api.MutRemoveVertex, ID: 2}, api.Mutation{Kind: api.MutAddVertex, ID: 2, V: 22}
	g := small()
	g.Vertices[1] = api.Vertex{ID: 2, Value: 22}
	for _, lists := range [][][]api.Mutation{{{back, gone}}, {{gone}, {back}}, {{gone}, {gone}, {}, {back}}} {
		p := partOf(small(), []int64{1, 2, 3, 4})
		for _, asked := range lists {
			p.Close(nil, asked)
		}
		stands(t, "gone and back", p, g, []int64{1, 3, 4})
		if n := p.Active(); n != 1 {
			t.Errorf("%v: %d are active", lists, n)
		}
	}
	p := partOf(small(), []int64{1, 2, 3, 4})
	p.Close(nil, []api.Mutation{back})
	stands(t, "one that was there all the time", p, small(), []int64{1, 2, 3, 4})
}

// Promise 9.2: by numbers; what is told is the caller's own.
func TestValues(t *testing.T) {
	for _, g := range append(graphs(), api.Graph{}) {
		p := run.NewPart(g)
		var want []api.Value
		for _, v := range g.Vertices {
			want = append(want, api.Value{ID: v.ID, V: v.Value})
		}
		got := p.Values()
		if !slices.Equal(got, want) {
			t.Errorf("%v, not %v", got, want)
		}
		for i := range got {
			got[i] = api.Value{ID: -99, V: -99}
		}
		if !slices.Equal(p.Values(), want) || !graph.Same(p.G, g) {
			t.Errorf("once an answer was changed: %v, not %v", p.Values(), want)
		}
	}
}

// Promise 9.2: by their numbers, even where somebody laid vertices that do not rise.
func TestOutOfOrder(t *testing.T) {
	p := run.NewPart(of(vertex(3, 30, 1), vertex(-2, 20, 3), vertex(1, 10, 3)))
	if got := p.Values(); !slices.Equal(got, []api.Value{{ID: -2, V: 20}, {ID: 1, V: 10}, {ID: 3, V: 30}}) {
		t.Errorf("values %v", got)
	}
	sent, _, _ := steps(t, p, job("degree", api.Graph{}), 0, 3, api.Aggregate{})
	if !slices.Equal(sent, []api.Message{msg(3, -2, 0, 1), msg(3, 1, 0, 1), msg(1, 3, 0, 1)}) {
		t.Errorf("sent %v", sent)
	}
	p.Close(sent, nil)
	if n := p.Active(); n != 2 {
		t.Errorf("%d are active", n)
	}
}

// R1: a part that is nil, and one that has nothing but vertices.
func TestPlainPart(t *testing.T) {
	var p *run.Part
	sent, asked, gave, e := p.Step(job("degree", small()), 0, 4, api.Aggregate{})
	if len(sent) != 0 || len(asked) != 0 || gave != (api.Aggregate{}) || e != api.OK {
		t.Errorf("nil: sent %v, asked for %v, gave %v, error %d", sent, asked, gave, e)
	}
	if p.Active() != 0 || p.Close(says(1, 2), []api.Mutation{{Kind: api.MutAddVertex}}) != 0 || len(p.Values()) != 0 {
		t.Error("nil has something")
	}
	p = &run.Part{}
	if p.Active() != 0 || len(p.Values()) != 0 {
		t.Error("a plain part has something")
	}
	if _, _, _, e := p.Step(job("degree", small()), 0, 4, api.Aggregate{}); e != api.OK {
		t.Errorf("a plain part: error %d", e)
	}
	p = &run.Part{}
	if n := p.Close(says(0, 2), []api.Mutation{{Kind: api.MutAddVertex}, {Kind: api.MutRemoveVertex, ID: 5}}); n != 1 || p.Active() != 1 {
		t.Errorf("a plain part: %d requests changed something, %d are active", n, p.Active())
	}
	stands(t, "a plain part", p, of(api.Vertex{}), nil, says(0, 2)...)
	p = &run.Part{G: small()}
	if n := p.Active(); n != 4 {
		t.Errorf("%d are active", n)
	}
	sent, _, _ = steps(t, p, job("degree", small()), 0, 4, api.Aggregate{})
	p.Close(sent, nil)
	stands(t, "a plain part behind a superstep", p, laid(2, 1, 0, 0), []int64{1, 2, 3, 4}, msg(2, 1, 0, 1), msg(3, 1, 1, 1), msg(3, 2, 0, 1))
	p = &run.Part{G: small(), Box: comb.New()}
	p.Box.Put(says(2, 1)...)
	steps(t, p, job("bfs", small(), 1), 1, 4, api.Aggregate{})
	stands(t, "without a map", p, laid(70, 1, 700, 1), []int64{1, 2, 3, 4})
}
