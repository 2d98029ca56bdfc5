package serve_test

import (
	"encoding/binary"
	"fmt"
	"math"
	"reflect"
	"slices"
	"testing"

	"cohort/api"
	"cohort/disk"
	"cohort/master"
	"cohort/rnode"
	"cohort/run"
	"cohort/serve"
	"cohort/wal"
)

const (
	least    = math.MinInt64
	greatest = math.MaxInt64
	most     = 1<<31 - 1 // the greatest number in bytes
)

// numbers is numbers in bytes, made by others than package wire.
func numbers(l ...int) string {
	var b []byte
	for _, n := range l {
		b = binary.AppendUvarint(b, uint64(n))
	}
	return string(b)
}

func signed(l ...int64) string {
	var b []byte
	for _, n := range l {
		b = binary.AppendVarint(b, n)
	}
	return string(b)
}

func text(s string) string { return numbers(len(s)) + s }

// pair is 1 to 2.
func pair() api.Graph {
	return api.Graph{Vertices: []api.Vertex{{ID: 1, Value: 7, Edges: []api.Edge{{To: 2, Weight: 3}}}, {ID: 2, Value: -7}}}
}

// degree is the job of the first example of the whole.
func degree() api.Job {
	return api.Job{Program: "degree", Graph: pair(), Steps: 10, Sent: 10, Parts: 1}
}

// jobText is the bytes of a job that may be.
func jobText(j api.Job) string {
	s, e := run.EncodeJob(j)
	if e != api.OK {
		panic(e)
	}
	return s
}

// commandText is a command as masters agree on it.
func commandText(c api.Command) string {
	s, e := master.EncodeCommand(c)
	if e != api.OK {
		panic(e)
	}
	return s
}

func submit(session int64, seq int, s string) api.Command {
	return api.Command{Kind: api.CmdSubmit, Session: session, Seq: seq, S: s}
}

func cancel(session int64, seq, id int) api.Command {
	return api.Command{Kind: api.CmdCancel, Session: session, Seq: seq, ID: id}
}

func join(worker, life int) api.Command {
	return api.Command{Kind: api.CmdJoin, Worker: worker, Life: life}
}

func lose(worker, life int) api.Command {
	return api.Command{Kind: api.CmdLose, Worker: worker, Life: life}
}

func reports(r api.Report) api.Command {
	return api.Command{Kind: api.CmdReport, Report: r}
}

// entries is commands, each put in a view.
func entries(of int, l ...api.Command) []api.LogEntry {
	var out []api.LogEntry
	for _, c := range l {
		out = append(out, api.LogEntry{View: of, S: commandText(c)})
	}
	return out
}

// recBytes is a record as chapter 14 has it.
func recBytes(h api.Hard) string {
	s := numbers(h.View, h.Normal, h.BaseIndex, len(h.Log))
	for _, e := range h.Log {
		s += numbers(e.View) + text(e.S)
	}
	return s
}

// laid is a disk on which a master was kept.
func laid(t *testing.T, h api.Hard) *disk.Disk {
	t.Helper()
	d := disk.New()
	l, _, e := wal.Open(d)
	snap := ""
	if h.BaseIndex > 0 || h.Base != "" {
		snap = numbers(h.BaseIndex, h.BaseView) + text(h.Base)
	}
	if e != api.OK || l.Reset(snap, []string{recBytes(h)}) != api.OK {
		t.Fatalf("laid: error %d", e)
	}
	return d
}

// open is a master that stands up.
func open(t *testing.T, d *disk.Disk, me, all int) *serve.Server {
	t.Helper()
	s, e := serve.Open(d, me, all)
	if e != api.OK || s == nil {
		t.Fatalf("Open(%d, %d): error %d", me, all, e)
	}
	if s.Dead() {
		t.Fatalf("Open(%d, %d): it is dead", me, all)
	}
	return s
}

// stands is a master that stands up with what was kept.
func stands(t *testing.T, me, all int, h api.Hard) *serve.Server {
	t.Helper()
	return open(t, laid(t, h), me, all)
}

// alone is a master of one on a new disk, which leads.
func alone(t *testing.T) *serve.Server {
	t.Helper()
	return open(t, disk.New(), 0, 1)
}

// packet is what is said from one to another.
func packet(from, to int, x api.Say) api.Packet {
	return api.Packet{From: from, To: to, S: serve.Encode(x)}
}

func viewSay(m api.ViewMsg) api.Say { return api.Say{Kind: api.SayView, View: m} }

func hintSay(leader int) api.Say { return api.Say{Kind: api.SayHint, Leader: leader} }

func taskSay(t api.Task) api.Say { return api.Say{Kind: api.SayTask, Has: true, Task: t} }

// idle is SayTask without a task.
func idle() api.Say { return api.Say{Kind: api.SayTask} }

func beatSay(worker, life int) api.Say {
	return api.Say{Kind: api.SayBeat, Worker: worker, Life: life}
}

func reportSay(worker, life int, r api.Report) api.Say {
	return api.Say{Kind: api.SayBeat, Worker: worker, Life: life, Has: true, Report: r}
}

func askSay(a api.Ask) api.Say { return api.Say{Kind: api.SayAsk, Ask: a} }

func toldSay(kind int, session int64, seq int, r api.Reply, s api.Status) api.Say {
	return api.Say{Kind: api.SayTold, Told: api.Told{Kind: kind, Session: session, Seq: seq, Reply: r, Status: s}}
}

func askSubmit(session int64, seq int, s string) api.Say {
	return askSay(api.Ask{Kind: api.AskSubmit, Session: session, Seq: seq, S: s})
}

func askCancel(session int64, seq, id int) api.Say {
	return askSay(api.Ask{Kind: api.AskCancel, Session: session, Seq: seq, ID: id})
}

func askStatus(session int64, seq, id int) api.Say {
	return askSay(api.Ask{Kind: api.AskStatus, Session: session, Seq: seq, ID: id})
}

// said is what a packet says.
func said(t *testing.T, p api.Packet) api.Say {
	t.Helper()
	x, e := serve.Decode(p.S)
	if e != api.OK {
		t.Fatalf("%d tells %d what is nothing, %q: error %d", p.From, p.To, p.S, e)
	}
	return x
}

// show is packets in brief.
func show(l []api.Packet) string {
	out := fmt.Sprint(len(l), " packets")
	for _, p := range l {
		x, e := serve.Decode(p.S)
		out += fmt.Sprintf("\n  %d->%d error %d: ", p.From, p.To, e)
		switch x.Kind {
		case api.SayView:
			out += fmt.Sprintf("view %+v", x.View)
		case api.SayBeat:
			out += fmt.Sprintf("beat %d, %d, %t %v", x.Worker, x.Life, x.Has, x.Report)
		case api.SayTask:
			out += fmt.Sprintf("task %t %+v", x.Has, x.Task)
		case api.SayHint:
			out += fmt.Sprint("hint ", x.Leader)
		case api.SayAsk:
			out += fmt.Sprintf("ask %+v", x.Ask)
		case api.SayTold:
			out += fmt.Sprintf("told %+v", x.Told)
		default:
			out += fmt.Sprint(x)
		}
	}
	return out
}

// told is that a call told just that.
func told(t *testing.T, what string, l []api.Packet, e api.Errno, want ...api.Packet) {
	t.Helper()
	if e != api.OK || !slices.Equal(l, want) {
		t.Fatalf("%s: error %d, %s\nand not %s", what, e, show(l), show(want))
	}
}

// handles is that a packet is answered by just that.
func handles(t *testing.T, what string, s *serve.Server, p api.Packet, want ...api.Packet) {
	t.Helper()
	l, e := s.Handle(p)
	told(t, what, l, e, want...)
}

// ticks lets ticks pass, in which a master that is alone tells nothing.
func ticks(t *testing.T, s *serve.Server, n int) {
	t.Helper()
	for i := range n {
		if l, e := s.Tick(); e != api.OK || len(l) > 0 {
			t.Fatalf("tick %d: error %d, %s", i, e, show(l))
		}
	}
}

// lives is which workers are there, and in which lives: pairs of numbers.
func lives(t *testing.T, what string, s *serve.Server, want ...int) {
	t.Helper()
	var got []int
	for _, w := range s.Master().Workers() {
		life, _ := s.Master().Life(w)
		got = append(got, w, life)
	}
	if !slices.Equal(got, want) {
		t.Fatalf("%s: there are workers and lives %v, not %v", what, got, want)
	}
}

// logs is the texts of the entries that a master has behind its snapshot.
func logs(s *serve.Server) []string {
	var l []string
	for _, e := range s.Node().View().Hard().Log {
		l = append(l, e.S)
	}
	return l
}

// hasLog is that a master has just these commands behind its snapshot.
func hasLog(t *testing.T, what string, s *serve.Server, l ...api.Command) {
	t.Helper()
	var want []string
	for _, c := range l {
		want = append(want, commandText(c))
	}
	if got := logs(s); !slices.Equal(got, want) {
		t.Fatalf("%s: the log has %q, not %q", what, got, want)
	}
}

// all is everything that can be asked of a server.
func all(s *serve.Server) string {
	n := s.Node()
	base, at := n.Base()
	return fmt.Sprint(s.Dead(), s.Leads(), s.Master().Encode(), n.At(), base, at, n.View().Hard(), n.View().Commit())
}

// stays is that a packet does nothing.
func stays(t *testing.T, what string, s *serve.Server, p api.Packet) {
	t.Helper()
	was := all(s)
	handles(t, what, s, p)
	if now := all(s); now != was {
		t.Fatalf("%s: %s\nwas %s", what, now, was)
	}
}

// isDead is that every call of a master without power tells so.
func isDead(t *testing.T, what string, s *serve.Server) {
	t.Helper()
	if !s.Dead() {
		t.Fatalf("%s: it is not dead", what)
	}
	if l, e := s.Tick(); e != api.ErrDead || l != nil {
		t.Fatalf("%s: Tick tells error %d, %s", what, e, show(l))
	}
	for _, p := range []api.Packet{
		{}, {From: 200, To: 0, S: "no"}, packet(200, 0, askSubmit(1, 1, "")), packet(200, 0, askStatus(1, 1, 1)), packet(200, 9, askStatus(1, 1, 1)),
		packet(103, 0, beatSay(3, 1)), packet(1, 0, viewSay(api.ViewMsg{Kind: api.ViewWant, From: 1, View: 1})), packet(0, 0, idle()),
	} {
		if l, e := s.Handle(p); e != api.ErrDead || l != nil {
			t.Fatalf("%s: Handle(%v) tells error %d, %s", what, p, e, show(l))
		}
	}
	if !s.Dead() {
		t.Fatalf("%s: it is not dead any more", what)
	}
}

// as makes lists that are empty nil, so that both are the same.
func as(x api.Say) api.Say {
	v := reflect.New(reflect.TypeOf(x)).Elem()
	v.Set(reflect.ValueOf(x))
	bare(v)
	return v.Interface().(api.Say)
}

func bare(v reflect.Value) {
	switch v.Kind() {
	case reflect.Struct:
		for i := range v.NumField() {
			bare(v.Field(i))
		}
	case reflect.Slice:
		if v.Len() == 0 {
			v.SetZero()
			return
		}
		l := reflect.MakeSlice(v.Type(), v.Len(), v.Len())
		reflect.Copy(l, v)
		v.Set(l)
		for i := range v.Len() {
			bare(v.Index(i))
		}
	}
}

func sameSay(a, b api.Say) bool { return reflect.DeepEqual(as(a), as(b)) }

// nodeOf is a shadow: what a disk has, as layer 14 reads it, on a disk of its own.
func nodeOf(t *testing.T, d *disk.Disk, me, all int) *rnode.Node {
	t.Helper()
	n, e := rnode.Open(d.Clone(), me, all)
	if e != api.OK {
		t.Fatalf("rnode.Open(%d, %d): error %d", me, all, e)
	}
	return n
}
