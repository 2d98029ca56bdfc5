package master

import (
	"cohort/agg"
	"cohort/api"
	"cohort/run"
	"cohort/wire"
)

// most is the greatest number in bytes.
const most = 1<<31 - 1

// PutReport puts a report.
func PutReport(w *wire.Writer, x api.Report) {
	putNumbers(w, x.Job, x.Epoch, x.Step, x.Phase, x.Worker, int(x.Err), x.Sent, x.Active, x.Many)
	agg.Put(w, x.Agg)
	putValues(w, x.Values)
}

// TakeReport takes a report.
func TakeReport(r *wire.Reader) api.Report {
	x := api.Report{Job: r.Count(most), Epoch: r.Count(most), Step: r.Count(most), Phase: r.Count(most), Worker: r.Count(most)}
	x.Err = api.Errno(r.Count(most))
	x.Sent, x.Active, x.Many = r.Count(most), r.Count(most), r.Count(most)
	x.Agg = agg.Take(r)
	x.Values = takeValues(r, api.MaxVertices)
	if r.Err() != api.OK {
		return api.Report{}
	}
	return x
}

// EncodeCommand is a command's bytes.
func EncodeCommand(c api.Command) (string, api.Errno) {
	w := wire.NewWriter()
	w.Count(c.Kind)
	switch c.Kind {
	case api.CmdSubmit:
		w.Signed(c.Session)
		w.Count(c.Seq)
		w.Text(c.S)
	case api.CmdCancel:
		w.Signed(c.Session)
		w.Count(c.Seq)
		w.Count(c.ID)
	case api.CmdJoin, api.CmdLose:
		w.Count(c.Worker)
		w.Count(c.Life)
	case api.CmdReport:
		PutReport(w, c.Report)
	default:
		return "", api.ErrCmd
	}
	return w.All(), api.OK
}

// DecodeCommand is the command of bytes.
func DecodeCommand(s string) (api.Command, api.Errno) {
	r := wire.NewReader(s)
	c := takeCommand(r)
	if e := r.End(); e != api.OK {
		return api.Command{}, e
	}
	return c, api.OK
}

func takeCommand(r *wire.Reader) api.Command {
	switch kind := r.Number(); kind {
	case api.CmdSubmit:
		return api.Command{Kind: api.CmdSubmit, Session: r.Signed(), Seq: r.Count(most), S: r.Text()}
	case api.CmdCancel:
		return api.Command{Kind: api.CmdCancel, Session: r.Signed(), Seq: r.Count(most), ID: r.Count(most)}
	case api.CmdJoin, api.CmdLose:
		return api.Command{Kind: int(kind), Worker: r.Count(most), Life: r.Count(most)}
	case api.CmdReport:
		return api.Command{Kind: api.CmdReport, Report: TakeReport(r)}
	}
	// A reader that came to an error in the kind keeps that one.
	r.Fail(api.ErrCmd)
	return api.Command{}
}

// PutTask puts a task.
func PutTask(w *wire.Writer, t api.Task) {
	putNumbers(w, t.Job, t.Epoch, t.Step, t.Phase, t.Many, t.From, t.FromEpoch)
	putList(w, t.Parts)
	putList(w, t.Assigned)
	w.Bool(t.Keep)
	agg.Put(w, t.Before)
	run.PutJob(w, t.Spec)
}

// TakeTask takes a task.
func TakeTask(r *wire.Reader) api.Task {
	t := api.Task{Job: r.Count(most), Epoch: r.Count(most), Step: r.Count(most), Phase: r.Count(most)}
	t.Many, t.From, t.FromEpoch = r.Count(most), r.Count(most), r.Count(most)
	t.Parts, t.Assigned = takeList(r), takeList(r)
	t.Keep = r.Bool()
	t.Before = agg.Take(r)
	t.Spec = run.TakeJob(r)
	if r.Err() != api.OK {
		return api.Task{}
	}
	return t
}

func putNumbers(w *wire.Writer, l ...int) {
	for _, n := range l {
		w.Count(n)
	}
}

func putList(w *wire.Writer, l []int) {
	w.Count(len(l))
	putNumbers(w, l...)
}

func takeList(r *wire.Reader) []int {
	var l []int
	for range r.Count(api.MaxParts) {
		l = append(l, r.Count(most))
	}
	return l
}

func putValues(w *wire.Writer, l []api.Value) {
	w.Count(len(l))
	for _, v := range l {
		w.Signed(v.ID)
		w.Signed(v.V)
	}
}

// takeValues takes at most so many values. It ends at the reader's first error, since bytes may tell of far more values than they have.
func takeValues(r *wire.Reader, many int) []api.Value {
	var l []api.Value
	for range r.Count(many) {
		v := api.Value{ID: r.Signed(), V: r.Signed()}
		if r.Err() != api.OK {
			return nil
		}
		l = append(l, v)
	}
	return l
}
