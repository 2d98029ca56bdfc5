package serve

import (
	"cohort/api"
)

// Handle takes a packet.
func (s *Server) Handle(p api.Packet) ([]api.Packet, api.Errno) {
	if s.Dead() {
		return nil, api.ErrDead
	}
	x, e := Decode(p.S)
	if p.To != s.me || e != api.OK {
		return nil, api.OK
	}
	switch x.Kind {
	case api.SayView:
		if p.From == x.View.From {
			return s.agree(s.node.Step(x.View))
		}
	case api.SayBeat, api.SayAsk:
		if !s.Leads() {
			return s.tell(p.From, api.Say{Kind: api.SayHint, Leader: s.node.View().Leader()})
		}
		if x.Kind == api.SayAsk {
			return s.answer(p.From, x.Ask)
		}
		if x.Worker < api.MaxWorkers && p.From == api.FirstWorker+x.Worker {
			return s.hear(p.From, x)
		}
	}
	return nil, api.OK
}

// tell is one packet that says something.
func (s *Server) tell(to int, x api.Say) ([]api.Packet, api.Errno) {
	return []api.Packet{s.say(to, x)}, api.OK
}

// hear takes a worker's beat.
func (s *Server) hear(from int, x api.Say) ([]api.Packet, api.Errno) {
	life, there := s.master.Life(x.Worker)
	if there && life > x.Life {
		return nil, api.OK
	}
	s.leases.Renew(x.Worker, x.Life, s.now)
	if !there || life != x.Life {
		return s.put(api.Command{Kind: api.CmdJoin, Worker: x.Worker, Life: x.Life})
	}
	var out []api.Packet
	if x.Has && x.Report.Worker == x.Worker && s.master.Wants(x.Report) {
		var e api.Errno
		if out, e = s.put(api.Command{Kind: api.CmdReport, Report: x.Report}); e != api.OK {
			return nil, e
		}
	}
	t, has := s.master.Task(x.Worker)
	return append(out, s.say(from, api.Say{Kind: api.SayTask, Has: has, Task: t})), api.OK
}

// answer tells a client what it asks for, as soon as masters agreed on it.
func (s *Server) answer(from int, a api.Ask) ([]api.Packet, api.Errno) {
	told := api.Told{Kind: a.Kind, Session: a.Session, Seq: a.Seq}
	switch a.Kind {
	case api.AskSubmit:
		return s.request(from, told, api.Command{Kind: api.CmdSubmit, Session: a.Session, Seq: a.Seq, S: a.S})
	case api.AskCancel:
		return s.request(from, told, api.Command{Kind: api.CmdCancel, Session: a.Session, Seq: a.Seq, ID: a.ID})
	case api.AskStatus:
		told.Status, told.Reply.Err = s.master.Status(a.ID)
		return s.tell(from, api.Say{Kind: api.SayTold, Told: told})
	}
	return nil, api.OK
}

// request tells what was told of a request, or lets masters agree on it: then the client is told when it asks again.
func (s *Server) request(from int, told api.Told, c api.Command) ([]api.Packet, api.Errno) {
	reply, was, e := s.master.Look(c.Session, c.Seq)
	if !was && e == api.OK {
		return s.put(c)
	}
	if e != api.OK {
		reply = api.Reply{Err: e}
	}
	told.Reply = reply
	return s.tell(from, api.Say{Kind: api.SayTold, Told: told})
}
