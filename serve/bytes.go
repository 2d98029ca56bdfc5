package serve

import (
	"cohort/api"
	"cohort/comb"
	"cohort/master"
	"cohort/mut"
	"cohort/run"
	"cohort/view"
	"cohort/wire"
)

const (
	most     = 1<<31 - 1     // the greatest number in bytes
	maxAsk   = api.AskStatus // the greatest kind of asking in bytes
	noLeader = -1
)

// Encode is what is said as bytes. Of a kind that is none they tell the kind alone.
func Encode(s api.Say) string {
	w := wire.NewWriter()
	w.Count(s.Kind)
	switch s.Kind {
	case api.SayView:
		view.Put(w, s.View)
	case api.SayBeat:
		putNumbers(w, s.Worker, s.Life)
		w.Bool(s.Has)
		if s.Has {
			master.PutReport(w, s.Report)
		}
	case api.SayTask:
		w.Bool(s.Has)
		if s.Has {
			master.PutTask(w, s.Task)
		}
	case api.SayHint:
		w.Signed(int64(s.Leader))
	case api.SayAsk:
		putAsk(w, s.Ask)
	case api.SayTold:
		putTold(w, s.Told)
	case api.SayBatch, api.SayAck:
		putBatch(w, s.Batch)
	}
	return w.All()
}

// Decode is what bytes say.
func Decode(s string) (api.Say, api.Errno) {
	r := wire.NewReader(s)
	x := take(r)
	if e := r.End(); e != api.OK {
		return api.Say{}, e
	}
	return x, api.OK
}

func take(r *wire.Reader) api.Say {
	switch kind := r.Number(); kind {
	case api.SayView:
		return api.Say{Kind: api.SayView, View: view.Take(r)}
	case api.SayBeat:
		return takeBeat(r)
	case api.SayTask:
		return takeTask(r)
	case api.SayHint:
		return api.Say{Kind: api.SayHint, Leader: takeLeader(r)}
	case api.SayAsk:
		return api.Say{Kind: api.SayAsk, Ask: takeAsk(r)}
	case api.SayTold:
		return api.Say{Kind: api.SayTold, Told: takeTold(r)}
	case api.SayBatch, api.SayAck:
		return api.Say{Kind: int(kind), Batch: takeBatch(r)}
	}
	// A reader that came to an error in the kind keeps that one.
	r.Fail(api.ErrForm)
	return api.Say{}
}

func takeBeat(r *wire.Reader) api.Say {
	x := api.Say{Kind: api.SayBeat, Worker: r.Count(most), Life: r.Count(most), Has: r.Bool()}
	if x.Has {
		x.Report = master.TakeReport(r)
	}
	return x
}

func takeTask(r *wire.Reader) api.Say {
	x := api.Say{Kind: api.SayTask, Has: r.Bool()}
	if x.Has {
		x.Task = master.TakeTask(r)
	}
	return x
}

func takeLeader(r *wire.Reader) int {
	n := r.Signed()
	if n < noLeader {
		r.Fail(api.ErrForm)
	}
	if n >= api.MaxMasters {
		r.Fail(api.ErrMore)
	}
	return int(n)
}

func putAsk(w *wire.Writer, x api.Ask) {
	w.Count(x.Kind)
	w.Signed(x.Session)
	putNumbers(w, x.Seq, x.ID)
	w.Text(x.S)
}

func takeAsk(r *wire.Reader) api.Ask {
	return api.Ask{Kind: r.Count(maxAsk), Session: r.Signed(), Seq: r.Count(most), ID: r.Count(most), S: r.Text()}
}

func putTold(w *wire.Writer, x api.Told) {
	w.Count(x.Kind)
	w.Signed(x.Session)
	putNumbers(w, x.Seq, int(x.Reply.Err), x.Reply.ID)
	putNumbers(w, x.Status.ID, x.Status.State, x.Status.Step, x.Status.Epoch)
	w.Text(run.Encode(x.Status.Outcome))
}

func takeTold(r *wire.Reader) api.Told {
	return api.Told{
		Kind: r.Count(maxAsk), Session: r.Signed(), Seq: r.Count(most),
		Reply:  api.Reply{Err: api.Errno(r.Count(most)), ID: r.Count(most)},
		Status: api.Status{ID: r.Count(most), State: r.Count(most), Step: r.Count(most), Epoch: r.Count(most), Outcome: takeOutcome(r)},
	}
}

func takeOutcome(r *wire.Reader) api.Outcome {
	o, e := run.Decode(r.Text())
	if e != api.OK {
		// A reader that came to an error in the text keeps that one.
		r.Fail(e)
	}
	return o
}

func putBatch(w *wire.Writer, x api.Batch) {
	putNumbers(w, x.Job, x.Epoch, x.Step, x.From)
	comb.PutMessages(w, x.Messages)
	mut.Put(w, x.Mutations)
}

func takeBatch(r *wire.Reader) api.Batch {
	return api.Batch{
		Job: r.Count(most), Epoch: r.Count(most), Step: r.Count(most), From: r.Count(most),
		Messages: comb.TakeMessages(r), Mutations: mut.Take(r),
	}
}

func putNumbers(w *wire.Writer, l ...int) {
	for _, n := range l {
		w.Count(n)
	}
}
