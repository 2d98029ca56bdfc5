package serve_test

import (
	"slices"
	"strconv"

	"cohort/api"
	"cohort/disk"
	"cohort/master"
	"cohort/rnode"
	"cohort/serve"
)

// model is a server as the chapter has it, sentence by sentence: with a node and a master of its own, and lists instead of tables.
type model struct {
	me, now int
	n       *rnode.Node
	m       *master.Master
	heard   []heard
	led     []int    // the views that it led
	put     []string // in the last one of them
	given   func(g api.Given)
}

// heard is when a worker was heard of.
type heard struct{ worker, life, tick int }

// openModel stands up from a disk; given is told all that is handed out.
func openModel(d *disk.Disk, me, all int, given func(g api.Given)) (*model, api.Errno) {
	n, e := rnode.Open(d, me, all)
	if e != api.OK {
		return nil, e
	}
	x := &model{me: me, n: n, m: master.New(), given: given}
	if s, index := n.Base(); index > 0 {
		if x.m, e = master.Decode(s); e != api.OK {
			return nil, e
		}
	}
	return x, x.commits()
}

// commits does what is committed.
func (x *model) commits() api.Errno {
	for {
		g, ok := x.n.Next()
		if !ok {
			break
		}
		x.given(g)
		if g.Snap {
			x.m, _ = master.Decode(g.S)
			continue
		}
		x.put = slices.DeleteFunc(x.put, func(s string) bool { return s == g.S })
		if c, e := master.DecodeCommand(g.S); e == api.OK {
			x.m.Apply(c)
		}
	}
	of := x.n.View().View()
	if x.n.View().Ready() && !slices.Contains(x.led, of) {
		x.led, x.put, x.heard = append(x.led, of), nil, nil
		for _, w := range x.m.Workers() {
			life, _ := x.m.Life(w)
			x.heard = append(x.heard, heard{w, life, x.now})
		}
	}
	if _, base := x.n.Base(); x.n.At() >= base+30 {
		_, e := x.n.Compact(x.m.Encode())
		return e
	}
	return api.OK
}

// tells is packets of masters, behind what is committed by then.
func (x *model) tells(l []api.ViewMsg, e api.Errno) ([]api.Packet, api.Errno) {
	if e == api.OK {
		e = x.commits()
	}
	if e != api.OK {
		return nil, e
	}
	var out []api.Packet
	for _, m := range l {
		out = append(out, packet(x.me, m.To, api.Say{Kind: api.SayView, View: m}))
	}
	return out, api.OK
}

func (x *model) puts(c api.Command) ([]api.Packet, api.Errno) {
	s := commandText(c)
	if slices.Contains(x.put, s) {
		return nil, api.OK
	}
	index, l, e := x.n.Propose(s)
	if index > 0 {
		x.put = append(x.put, s)
	}
	return x.tells(l, e)
}

func (x *model) tick() ([]api.Packet, api.Errno) {
	if x.n.Dead() {
		return nil, api.ErrDead
	}
	x.now++
	l, e := x.tells(x.n.Tick())
	if e != api.OK || !x.n.View().Ready() {
		return l, e
	}
	for w := range api.MaxWorkers {
		at := slices.IndexFunc(x.heard, func(h heard) bool { return h.worker == w })
		if at < 0 || x.now-x.heard[at].tick < 60 {
			continue
		}
		c := lose(w, x.heard[at].life)
		x.heard = slices.Delete(x.heard, at, at+1)
		more, e := x.puts(c)
		if e != api.OK {
			return nil, e
		}
		l = append(l, more...)
	}
	return l, api.OK
}

func (x *model) handle(p api.Packet) ([]api.Packet, api.Errno) {
	if x.n.Dead() {
		return nil, api.ErrDead
	}
	s, e := serve.Decode(p.S)
	switch {
	case e != api.OK, p.To != x.me:
		return nil, api.OK
	case s.Kind == api.SayView && p.From == s.View.From:
		return x.tells(x.n.Step(s.View))
	case s.Kind != api.SayBeat && s.Kind != api.SayAsk:
		return nil, api.OK
	case !x.n.View().Ready():
		return []api.Packet{packet(x.me, p.From, hintSay(x.n.View().Leader()))}, api.OK
	case s.Kind == api.SayAsk:
		return x.asked(p.From, s.Ask)
	case s.Worker >= api.MaxWorkers || p.From != 100+s.Worker:
		return nil, api.OK
	}
	return x.beat(p.From, s)
}

func (x *model) beat(from int, s api.Say) ([]api.Packet, api.Errno) {
	life, there := x.m.Life(s.Worker)
	if there && life > s.Life {
		return nil, api.OK
	}
	at := slices.IndexFunc(x.heard, func(h heard) bool { return h.worker == s.Worker })
	if at < 0 {
		x.heard = append(x.heard, heard{s.Worker, s.Life, x.now})
	} else if x.heard[at].life <= s.Life {
		x.heard[at] = heard{s.Worker, s.Life, x.now}
	}
	if !there || life < s.Life {
		return x.puts(join(s.Worker, s.Life))
	}
	var l []api.Packet
	if s.Has && s.Report.Worker == s.Worker && x.m.Wants(s.Report) {
		var e api.Errno
		if l, e = x.puts(reports(s.Report)); e != api.OK {
			return nil, e
		}
	}
	task, ok := x.m.Task(s.Worker)
	return append(l, packet(x.me, from, api.Say{Kind: api.SayTask, Has: ok, Task: task})), api.OK
}

func (x *model) asked(from int, a api.Ask) ([]api.Packet, api.Errno) {
	var c api.Command
	switch a.Kind {
	case api.AskSubmit:
		c = submit(a.Session, a.Seq, a.S)
	case api.AskCancel:
		c = cancel(a.Session, a.Seq, a.ID)
	case api.AskStatus:
		st, e := x.m.Status(a.ID)
		return []api.Packet{packet(x.me, from, toldSay(a.Kind, a.Session, a.Seq, api.Reply{Err: e}, st))}, api.OK
	default:
		return nil, api.OK
	}
	r, was, e := x.m.Look(a.Session, a.Seq)
	if e == api.OK && !was {
		return x.puts(c)
	}
	if e != api.OK {
		r = api.Reply{Err: e}
	}
	return []api.Packet{packet(x.me, from, toldSay(a.Kind, a.Session, a.Seq, r, api.Status{}))}, api.OK
}

// stand is all that can be asked of it, in brief.
func (x *model) stand() string {
	base, at := x.n.Base()
	return x.m.Encode() + base + strconv.Itoa(at) + " " + strconv.Itoa(x.n.At()) + " " + strconv.FormatBool(x.n.View().Ready())
}

func standOf(s *serve.Server) string {
	base, at := s.Node().Base()
	return s.Master().Encode() + base + strconv.Itoa(at) + " " + strconv.Itoa(s.Node().At()) + " " + strconv.FormatBool(s.Leads())
}
