package serve_test

import (
	"fmt"
	"math/rand"
	"slices"
	"testing"

	"cohort/api"
	"cohort/disk"
	"cohort/master"
	"cohort/run"
	"cohort/serve"
)

// request is one of a session.
type request struct {
	session int64
	seq     int
}

// asker is a client, which asks one thing behind the other, again and again until it is told.
type asker struct {
	node, of, at int
	asks         []api.Ask
}

// world is masters, each beside a model, workers, clients, what is under way, and what was agreed on.
type world struct {
	t              *testing.T
	name           string
	r              *rand.Rand
	disks, shadows []*disk.Disk
	servers        []*serve.Server // nil: without power
	models         []*model
	crew           *crew
	askers         []*asker
	net            []api.Packet

	texts   []string // agreed on, from index 1 on
	ref     *master.Master
	states  []string // the bytes of what was agreed on, up to each index
	replies map[request]api.Reply
	ended   map[int]api.Status // as anybody was told
	stops   map[int]bool       // jobs for which somebody asked to stop them
	counts  struct{ falls, told, ends, snaps int }
}

func newWorld(t *testing.T, name string, r *rand.Rand, masters, workers, clients int) *world {
	w := &world{t: t, name: name, r: r, crew: newCrew(workers), ref: master.New(), replies: map[request]api.Reply{}, ended: map[int]api.Status{}, stops: map[int]bool{}}
	w.states = []string{w.ref.Encode()}
	w.servers, w.models = make([]*serve.Server, masters), make([]*model, masters)
	for i := range masters {
		w.disks, w.shadows = append(w.disks, disk.New()), append(w.shadows, disk.New())
		w.up(i)
	}
	for i := range clients {
		w.askers = append(w.askers, &asker{node: api.FirstClient + i, asks: w.someAsks(int64(i) - 1)})
	}
	return w
}

// someJob is a small job of any program.
func someJob(r *rand.Rand) api.Job {
	n := 1 + r.Intn(6)
	g := api.Graph{}
	for i := range n {
		v := api.Vertex{ID: int64(i + 1)}
		for k := range n {
			if r.Intn(3) == 0 {
				v.Edges = append(v.Edges, api.Edge{To: int64(k + 1), Weight: int64(r.Intn(9))})
			}
		}
		g.Vertices = append(g.Vertices, v)
	}
	j := api.Job{Graph: g, Steps: 100, Sent: 1000, Parts: 1 + r.Intn(3)}
	switch r.Intn(10) {
	case 0:
		j.Steps = 1 + r.Intn(4)
	case 1:
		j.Sent = r.Intn(6)
	}
	programs := []string{"bfs", "sssp", "kcore", "pagerank", "labels", "degree", "cc", "triangles", "matching", "colors"}
	at := r.Intn(len(programs))
	j.Program = programs[at]
	switch {
	case at < 2:
		j.Params = []int64{1}
	case at < 5:
		j.Params = []int64{int64(1 + r.Intn(7))}
	}
	return j
}

// someAsks is what a client asks for: jobs, some that may not be, and cancellations.
func (w *world) someAsks(session int64) []api.Ask {
	var l []api.Ask
	for seq := 1; seq <= 6; seq++ {
		a := api.Ask{Kind: api.AskSubmit, Session: session, Seq: seq}
		switch w.r.Intn(6) {
		case 0:
			a.Kind, a.ID = api.AskCancel, w.r.Intn(12)
			w.stops[a.ID] = true
		case 1:
			a.S = "no job"
		default:
			a.S = jobText(someJob(w.r))
		}
		l = append(l, a)
	}
	return l
}

// given notes what was handed out, which is the same wherever it is.
func (w *world) given(g api.Given) {
	if g.Snap {
		w.counts.snaps++
		if g.Index >= len(w.states) || w.states[g.Index] != g.S {
			w.t.Fatalf("%s: the snapshot of %d is %q", w.name, g.Index, g.S)
		}
		return
	}
	if g.Index <= len(w.texts) {
		if w.texts[g.Index-1] != g.S {
			w.t.Fatalf("%s: at %d stand %q and %q", w.name, g.Index, g.S, w.texts[g.Index-1])
		}
		return
	}
	if g.Index != len(w.texts)+1 {
		w.t.Fatalf("%s: %d is handed out behind %d", w.name, g.Index, len(w.texts))
	}
	w.texts = append(w.texts, g.S)
	w.agree(g.S)
	w.states = append(w.states, w.ref.Encode())
}

// agree does a command as masters agreed on it, and keeps what requests were told.
func (w *world) agree(s string) {
	c, e := master.DecodeCommand(s)
	if e != api.OK {
		w.t.Fatalf("%s: %q is no command", w.name, s)
	}
	r, f := w.ref.Apply(c)
	if f != api.OK || c.Kind != api.CmdSubmit && c.Kind != api.CmdCancel {
		return
	}
	key := request{c.Session, c.Seq}
	if was, ok := w.replies[key]; ok && was != r {
		w.t.Fatalf("%s: request %v is told %v and %v", w.name, key, was, r)
	}
	w.replies[key] = r
}

// up lets a master and its model stand up.
func (w *world) up(i int) {
	if w.servers[i] != nil {
		return
	}
	w.disks[i].Up()
	w.shadows[i].Up()
	m, f := openModel(w.shadows[i], i, len(w.servers), w.given)
	s, e := serve.Open(w.disks[i], i, len(w.servers))
	if e != f || (s == nil) != (e != api.OK) || e != api.OK && e != api.ErrDead {
		w.t.Fatalf("%s: %d stands up with errors %d, %d", w.name, i, e, f)
	}
	if e != api.OK {
		w.counts.falls++
		return
	}
	w.servers[i], w.models[i] = s, m
	w.looks(i)
}

// looks holds a master against its model, and what it knows against what was agreed on.
func (w *world) looks(i int) {
	s := w.servers[i]
	if got, want := standOf(s), w.models[i].stand(); got != want || s.Dead() {
		w.t.Fatalf("%s: %d has %q, not %q", w.name, i, got, want)
	}
	if at := s.Node().At(); s.Master().Encode() != w.states[at] {
		w.t.Fatalf("%s: %d has %q at %d, not %q", w.name, i, s.Master().Encode(), at, w.states[at])
	}
}

// does is what a call of a master told, and what its model tells.
func (w *world) does(i int, l []api.Packet, e api.Errno, want []api.Packet, f api.Errno) {
	if e != f || !slices.Equal(l, want) {
		w.t.Fatalf("%s: %d tells error %d, %s\nand its model error %d, %s", w.name, i, e, show(l), f, show(want))
	}
	if e != api.OK {
		if e != api.ErrDead || l != nil || !w.servers[i].Dead() || !w.disks[i].Dead() {
			w.t.Fatalf("%s: %d tells error %d", w.name, i, e)
		}
		w.servers[i], w.models[i] = nil, nil
		w.counts.falls++
		return
	}
	w.looks(i)
	for _, p := range l {
		if p.From != i {
			w.t.Fatalf("%s: %d tells %v", w.name, i, p)
		}
		w.hears(said(w.t, p))
	}
	w.net = append(w.net, l...)
}

// hears holds what anybody is told against what was agreed on.
func (w *world) hears(x api.Say) {
	if x.Kind != api.SayTold {
		return
	}
	a := x.Told
	if a.Kind == api.AskStatus {
		w.hearsStatus(a)
		return
	}
	switch a.Reply.Err {
	case api.ErrOld, api.ErrGap:
		return
	}
	w.counts.told++
	if want, ok := w.replies[request{a.Session, a.Seq}]; !ok || a.Reply != want {
		w.t.Fatalf("%s: told %v, and agreed on was %v, %t", w.name, a, want, ok)
	}
}

func (w *world) hearsStatus(a api.Told) {
	if a.Reply.Err != api.OK {
		if a.Reply != (api.Reply{Err: api.ErrJob}) || a.Status.ID != 0 {
			w.t.Fatalf("%s: told %v", w.name, a)
		}
		return
	}
	if a.Status.State < api.Ended {
		return
	}
	was, ok := w.ended[a.Status.ID]
	if ok && (was.State != a.Status.State || !run.Same(was.Outcome, a.Status.Outcome)) {
		w.t.Fatalf("%s: told %v and %v", w.name, was, a.Status)
	}
	w.ended[a.Status.ID] = a.Status
	w.right(a.Status)
}

// right is that a job that has ended has just the outcome that the definition has.
func (w *world) right(s api.Status) {
	if s.State == api.Cancelled {
		if !w.stops[s.ID] || !run.Same(s.Outcome, api.Outcome{}) {
			w.t.Fatalf("%s: cancelled is %v", w.name, s)
		}
		return
	}
	j, ok := w.ref.Spec(s.ID)
	o, e := run.Run(j)
	if !ok || e != api.OK || !run.Same(o, s.Outcome) {
		w.t.Fatalf("%s: job %v has ended as %v, not as %v", w.name, j, s, o)
	}
	w.counts.ends++
}

func (w *world) tick(i int) {
	if w.servers[i] == nil {
		return
	}
	want, f := w.models[i].tick()
	l, e := w.servers[i].Tick()
	w.does(i, l, e, want, f)
}

// crash lets a master lose its power, if it has it.
func (w *world) crash(i int) {
	if w.servers[i] == nil {
		return
	}
	keep, torn := w.r.Intn(3), w.r.Intn(30)
	w.disks[i].Crash(keep, torn)
	w.shadows[i].Crash(keep, torn)
	w.servers[i], w.models[i] = nil, nil
	w.counts.falls++
}

// deliver lets a packet come, if there is such a node.
func (w *world) deliver(p api.Packet) {
	client, worker := p.To-api.FirstClient, p.To-api.FirstWorker
	switch {
	case client >= 0 && client < len(w.askers):
		w.askers[client].told(p.From, said(w.t, p))
	case worker >= 0 && worker < len(w.crew.hands):
		h := w.crew.hands[worker]
		switch x := said(w.t, p); x.Kind {
		case api.SayHint:
			h.of = max(x.Leader, 0)
		case api.SayTask:
			h.of = p.From
			if x.Has {
				w.crew.takes(h, x.Task)
			}
		}
	case p.To < len(w.servers) && w.servers[p.To] != nil:
		want, f := w.models[p.To].handle(p)
		l, e := w.servers[p.To].Handle(p)
		w.does(p.To, l, e, want, f)
	}
}

// told is what a client makes of what it hears.
func (a *asker) told(from int, x api.Say) {
	if x.Kind == api.SayHint && x.Leader >= 0 {
		a.of = x.Leader
	}
	if x.Kind != api.SayTold || a.at == len(a.asks) || x.Told.Seq != a.asks[a.at].Seq || x.Told.Kind != a.asks[a.at].Kind {
		return
	}
	if x.Told.Reply.Err != api.ErrOld && x.Told.Reply.Err != api.ErrGap {
		a.at++
		a.of = from
	}
}

func (w *world) sends(p api.Packet) { w.net = append(w.net, p) }

// ask lets a client ask; now and then it thinks of another master.
func (w *world) ask(a *asker) {
	if w.r.Intn(4) == 0 {
		a.of = w.r.Intn(len(w.servers))
	}
	if a.at < len(a.asks) {
		w.sends(packet(a.node, a.of, askSay(a.asks[a.at])))
	}
	w.sends(packet(a.node, a.of, askStatus(99, w.r.Intn(9), 1+w.r.Intn(len(w.ref.Jobs())+1))))
}

// beat lets a worker beat; now and then it thinks of another master.
func (w *world) beat(h *hand) {
	if w.r.Intn(8) == 0 {
		h.of = w.r.Intn(len(w.servers))
	}
	w.sends(packet(api.FirstWorker+h.id, h.of, h.beat()))
}

// chance is how often what happens, of a thousand.
type chance struct{ lost, doubled, plans, crashes, ups, burst, workers int }

// happens lets something happen.
func (w *world) happens(c chance) {
	r := w.r
	i, h, a := r.Intn(len(w.servers)), w.crew.hands[r.Intn(len(w.crew.hands))], w.askers[r.Intn(len(w.askers))]
	if r.Intn(1000) < c.plans {
		l := []api.Fall{{At: w.disks[i].Changes() + r.Intn(4), Keep: r.Intn(3), Torn: r.Intn(30)}}
		w.disks[i].Plan(l)
		w.shadows[i].Plan(l)
	}
	switch r.Intn(1000) {
	case 0:
		if x := every()[r.Intn(len(every()))]; x.Kind != api.SayAsk {
			w.sends(packet(r.Intn(300), i, x))
		}
	case 1:
		w.sends(packet(h.id+api.FirstWorker, i, beatSay(h.id, r.Intn(h.life+1))))
	}
	switch x := r.Intn(1000); {
	case x < c.crashes:
		w.crash(i)
	case x < c.crashes+c.ups:
		w.up(i)
	case x < c.crashes+c.ups+c.burst:
		for range r.Intn(80) {
			w.tick(i)
		}
	case x < c.crashes+c.ups+c.burst+c.workers:
		h.falls()
		w.net = slices.DeleteFunc(w.net, func(p api.Packet) bool { return p.To == api.FirstWorker+h.id })
	case x < 300:
		w.tick(i)
	case x < 400:
		w.beat(h)
	case x < 460:
		w.ask(a)
	case len(w.net) > 0:
		k := r.Intn(len(w.net))
		if r.Intn(2) == 0 {
			k = 0
		}
		p := w.net[k]
		if r.Intn(1000) >= c.doubled {
			w.net = slices.Delete(w.net, k, k+1)
		}
		if r.Intn(1000) >= c.lost {
			w.deliver(p)
		}
	}
	for len(w.net) > 100 {
		k := r.Intn(len(w.net))
		w.net = slices.Delete(w.net, k, k+1)
	}
}

// isSettled tells whether all clients were told, all jobs are over, and all masters have all.
func (w *world) isSettled() bool {
	for _, a := range w.askers {
		if a.at < len(a.asks) {
			return false
		}
	}
	for _, s := range w.servers {
		if s == nil || s.Node().At() != len(w.texts) {
			return false
		}
	}
	return w.ref.Open() == 0
}

// settle lets nothing fail any more. Of three and more one comes up late, when the others have gone on without it.
func (w *world) settle() {
	late := -1
	if len(w.servers) > 2 {
		late = w.r.Intn(len(w.servers))
	}
	for i := range w.servers {
		w.disks[i].Plan(nil)
		w.shadows[i].Plan(nil)
		if i == late {
			w.crash(i)
			continue
		}
		w.up(i)
	}
	for round := range 1500 {
		if round == 150 && late >= 0 {
			w.up(late)
		}
		if w.isSettled() {
			w.check()
			return
		}
		for i := range w.servers {
			w.tick(i)
		}
		if round%2 == 0 {
			for _, h := range w.crew.hands {
				w.beat(h)
			}
		}
		if round%3 == 0 {
			for _, a := range w.askers {
				w.ask(a)
			}
		}
		for many := len(w.net); many > 0; many-- {
			p := w.net[0]
			w.net = w.net[1:]
			w.deliver(p)
		}
	}
	w.t.Fatalf("%s: not settled: %d jobs are open", w.name, w.ref.Open())
}

// check is that each request was done once, and each job has ended as it must.
func (w *world) check() {
	var ids []int
	for _, a := range w.askers {
		for _, x := range a.asks {
			r, ok := w.replies[request{x.Session, x.Seq}]
			if !ok {
				w.t.Fatalf("%s: %v was not done", w.name, x)
			}
			if x.Kind == api.AskSubmit && r.Err == api.OK {
				ids = append(ids, r.ID)
				if j, _ := w.ref.Spec(r.ID); jobText(j) != x.S {
					w.t.Fatalf("%s: job %d is %v", w.name, r.ID, j)
				}
			}
		}
	}
	slices.Sort(ids)
	if !slices.Equal(ids, w.ref.Jobs()) {
		w.t.Fatalf("%s: told of jobs %v, there are %v", w.name, ids, w.ref.Jobs())
	}
	for _, id := range ids {
		s, _ := w.ref.Status(id)
		w.right(s)
	}
}

// Promise 18.4 (and T1 to T4): whatever is lost, doubled, late and out of order, and whoever loses its power: a client is told of a request only what masters agreed on, each request is done once, each job ends as the definition has it, and when nothing fails any more all are told. At each step a master does what the model beside it does.
func TestWorlds(t *testing.T) {
	chances := []chance{
		{burst: 5},
		{lost: 100, doubled: 100, ups: 10, crashes: 2, burst: 5, workers: 3},
		{lost: 300, doubled: 300, ups: 20, crashes: 3, plans: 5, burst: 10, workers: 5},
		{doubled: 50, ups: 20, crashes: 5, plans: 20, burst: 3, workers: 2},
		{lost: 30, doubled: 200, ups: 10, plans: 3, burst: 15},
	}
	falls, snaps, ends, tolds, agreed := 0, 0, 0, 0, 0
	for seed := range 250 {
		masters := 1 + seed%5
		r := rand.New(rand.NewSource(int64(seed)))
		w := newWorld(t, fmt.Sprintf("seed %d, %d masters", seed, masters), r, masters, 1+r.Intn(4), 1+r.Intn(3))
		c := chances[seed/5%len(chances)]
		for range 2000 {
			w.happens(c)
		}
		w.settle()
		falls, snaps, ends, tolds, agreed = falls+w.counts.falls, snaps+w.counts.snaps, ends+w.counts.ends, tolds+w.counts.told, agreed+len(w.texts)
	}
	t.Logf("%d falls, %d snapshots in the place of entries, %d ends, %d replies, %d commands", falls, snaps, ends, tolds, agreed)
	if falls < 500 || snaps < 50 || ends < 500 || tolds < 1000 || agreed < 5000 {
		t.Errorf("%d falls, %d snapshots in the place of entries, %d ends, %d replies, %d commands", falls, snaps, ends, tolds, agreed)
	}
}
