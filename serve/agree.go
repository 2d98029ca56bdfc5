package serve

import (
	"cohort/api"
	"cohort/master"
	"cohort/plan"
)

// maxBehind is how many entries may be handed out behind a snapshot until another one is laid.
const maxBehind = 30

// put lets masters agree on a command: what is told of it, unless it is under way.
func (s *Server) put(c api.Command) ([]api.Packet, api.Errno) {
	text, _ := master.EncodeCommand(c)
	if _, waits := s.waiting[text]; waits {
		return nil, api.OK
	}
	index, msgs, e := s.node.Propose(text)
	if index > 0 {
		s.waiting[text] = struct{}{}
	}
	return s.agree(msgs, e)
}

// agree is what is told by one that agrees with others, behind what came of it here.
func (s *Server) agree(msgs []api.ViewMsg, e api.Errno) ([]api.Packet, api.Errno) {
	if e != api.OK {
		return nil, e
	}
	if e := s.settle(); e != api.OK {
		return nil, e
	}
	var out []api.Packet
	for _, m := range msgs {
		out = append(out, s.say(m.To, api.Say{Kind: api.SayView, View: m}))
	}
	return out, api.OK
}

// settle does all that is committed and was not done.
func (s *Server) settle() api.Errno {
	for g, ok := s.node.Next(); ok; g, ok = s.node.Next() {
		s.take(g)
	}
	if s.Leads() && s.node.View().View() != s.led {
		s.beginToLead()
	}
	return s.compact()
}

// take does what is handed out. What is no command, or no master, does nothing.
func (s *Server) take(g api.Given) {
	if g.Snap {
		if m, e := master.Decode(g.S); e == api.OK {
			s.master = m
		}
		return
	}
	delete(s.waiting, g.S)
	if c, e := master.DecodeCommand(g.S); e == api.OK {
		s.master.Apply(c)
	}
}

// beginToLead lets all workers that are there have a lease. Nothing stays of an earlier view: others led since.
func (s *Server) beginToLead() {
	s.led = s.node.View().View()
	s.waiting = map[string]struct{}{}
	s.leases, _ = plan.New(api.Lease)
	for _, worker := range s.master.Workers() {
		life, _ := s.master.Life(worker)
		s.leases.Renew(worker, life, s.now)
	}
}

// compact lays a snapshot, when enough was handed out behind the last one.
func (s *Server) compact() api.Errno {
	_, base := s.node.Base()
	if s.node.At()-base < maxBehind {
		return api.OK
	}
	_, e := s.node.Compact(s.master.Encode())
	return e
}

// say is a packet that says something.
func (s *Server) say(to int, x api.Say) api.Packet {
	return api.Packet{From: s.me, To: to, S: Encode(x)}
}
