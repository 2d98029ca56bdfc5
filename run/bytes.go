package run

import (
	"cohort/api"
	"cohort/graph"
	"cohort/wire"
)

// The greatest numbers that an outcome's bytes may tell, beside those of api.
const (
	maxKind = api.Failed
	maxErr  = 1000
)

// PutJob puts a job.
func PutJob(w *wire.Writer, j api.Job) {
	w.Text(j.Program)
	graph.Put(w, j.Graph)
	w.Count(len(j.Params))
	for _, n := range j.Params {
		w.Signed(n)
	}
	w.Count(j.Steps)
	w.Count(j.Sent)
	w.Count(j.Parts)
}

// TakeJob takes a job; one that may not be is an error of the reader.
func TakeJob(r *wire.Reader) api.Job {
	j := api.Job{Program: r.Text(), Graph: graph.Take(r), Params: takeParams(r)}
	j.Steps = r.Count(api.MaxSteps)
	j.Sent = r.Count(api.MaxSent)
	j.Parts = r.Count(api.MaxParts)
	r.Fail(Check(j))
	if r.Err() != api.OK {
		return api.Job{}
	}
	return j
}

func takeParams(r *wire.Reader) []int64 {
	var l []int64
	for range r.Count(api.MaxParams) {
		l = append(l, r.Signed())
	}
	return l
}

// EncodeJob is a job's bytes.
func EncodeJob(j api.Job) (string, api.Errno) {
	if e := Check(j); e != api.OK {
		return "", e
	}
	w := wire.NewWriter()
	PutJob(w, j)
	return w.All(), api.OK
}

// DecodeJob is the job of bytes.
func DecodeJob(s string) (api.Job, api.Errno) {
	r := wire.NewReader(s)
	j := TakeJob(r)
	if e := r.End(); e != api.OK {
		return api.Job{}, e
	}
	return j, api.OK
}

// Encode is an outcome's bytes.
func Encode(o api.Outcome) string {
	w := wire.NewWriter()
	w.Count(o.Kind)
	w.Count(int(o.Err))
	w.Count(o.Steps)
	w.Count(len(o.Values))
	for _, v := range o.Values {
		w.Signed(v.ID)
		w.Signed(v.V)
	}
	return w.All()
}

// Decode is the outcome of bytes.
func Decode(s string) (api.Outcome, api.Errno) {
	r := wire.NewReader(s)
	o := api.Outcome{Kind: r.Count(maxKind), Err: api.Errno(r.Count(maxErr)), Steps: r.Count(api.MaxSteps)}
	for range r.Count(api.MaxVertices) {
		o.Values = append(o.Values, api.Value{ID: r.Signed(), V: r.Signed()})
	}
	if e := r.End(); e != api.OK {
		return api.Outcome{}, e
	}
	return o, api.OK
}
