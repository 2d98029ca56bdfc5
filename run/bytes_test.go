package run_test

import (
	"math"
	"slices"
	"testing"

	"cohort/api"
	"cohort/graph"
	"cohort/run"
	"cohort/wire"
)

func number(n int) string { return wire.Number(uint64(n)) }

func signed(n int64) string { return wire.Number(wire.Fold(n)) }

// put is a job's bytes, whether it may be or not, by numbers one behind the other.
func put(j api.Job) string {
	s := number(len(j.Program)) + j.Program + number(len(j.Graph.Vertices))
	for _, v := range j.Graph.Vertices {
		s += signed(v.ID) + signed(v.Value) + number(len(v.Edges))
		for _, e := range v.Edges {
			s += signed(e.To) + signed(e.Weight)
		}
	}
	s += number(len(j.Params))
	for _, n := range j.Params {
		s += signed(n)
	}
	return s + number(max(j.Steps, 0)) + number(max(j.Sent, 0)) + number(max(j.Parts, 0))
}

// refused tells whether bytes are no job, with that error, alone and off a reader between others.
func refused(t *testing.T, what, s string, want api.Errno) {
	t.Helper()
	if j, e := run.DecodeJob(s); e != want || !isZero(j) {
		t.Errorf("%s, %.80q: %v with error %d, not %d", what, s, j, e, want)
	}
	r := wire.NewReader("\x02ab" + s)
	r.Text()
	if j := run.TakeJob(r); r.End() != want || want != api.ErrMore && !isZero(j) {
		t.Errorf("%s, %.80q, off a reader: %v with error %d, not %d", what, s, j, r.Err(), want)
	}
}

// Promise 9.1: the bytes, one by one.
func TestEncodeJob(t *testing.T) {
	g := of(api.Vertex{ID: 1, Value: -3, Edges: []api.Edge{{To: 2, Weight: 150}}}, api.Vertex{ID: 2})
	for _, x := range []struct {
		j    api.Job
		want string
	}{
		{api.Job{Program: "cc", Steps: 1, Parts: 1}, "\x02cc\x00\x00\x01\x00\x01"},
		{api.Job{Program: "bfs", Graph: g, Params: []int64{2}, Steps: 300, Sent: 5, Parts: 16}, "\x03bfs\x02\x02\x05\x01\x04\xac\x02\x04\x00\x00\x01\x04\xac\x02\x05\x10"},
		{api.Job{Program: "kcore", Graph: of(), Params: []int64{256}, Steps: 1000, Sent: 65536, Parts: 2}, "\x05kcore\x00\x01\x80\x04\xe8\x07\x80\x80\x04\x02"},
	} {
		if s, e := run.EncodeJob(x.j); s != x.want || e != api.OK {
			t.Errorf("%v is %q with error %d, not %q", x.j, s, e, x.want)
		}
		if j, e := run.DecodeJob(x.want); !sameJob(j, x.j) || e != api.OK {
			t.Errorf("%q is %v with error %d, not %v", x.want, j, e, x.j)
		}
	}
	for _, x := range bads() {
		before := cloneJob(x.j)
		if s, e := run.EncodeJob(x.j); s != "" || e != x.err {
			t.Errorf("%s: %d bytes with error %d, not %d", x.name, len(s), e, x.err)
		}
		if !sameJob(x.j, before) {
			t.Errorf("%s: the job was changed", x.name)
		}
	}
}

// Promise 9.1: there and back, and what is told is the caller's own.
func TestJobThereAndBack(t *testing.T) {
	for _, g := range append(graphs(), fullest()) {
		for i, j := range jobs(g) {
			j = limited(j, 1+i*7, i*11, 1+i%api.MaxParts)
			before := cloneJob(j)
			s, e := run.EncodeJob(j)
			if s != put(j) || e != api.OK || !sameJob(j, before) {
				t.Fatalf("%s: other bytes, error %d, or the job was changed", j.Program, e)
			}
			first, e := run.DecodeJob(s)
			second, f := run.DecodeJob(s)
			if e != api.OK || f != api.OK || !sameJob(first, j) {
				t.Fatalf("%s: another job, %v, errors %d, %d", j.Program, first, e, f)
			}
			spoilJob(first)
			if !sameJob(second, j) {
				t.Fatalf("%s: once an answer was changed: %v", j.Program, second)
			}
		}
	}
}

// someJobs is jobs that may be, with few bytes.
func someJobs() []api.Job {
	return append(jobs(small()), job("cc", api.Graph{}), limited(job("labels", of(), 100), 1, 0, 16), limited(job("bfs", of(vertex(least, greatest)), least), 300, 300, 2))
}

// Promise 9.1: cut at any place.
func TestDecodeJobCut(t *testing.T) {
	for _, j := range someJobs() {
		s := put(j)
		for n := range len(s) {
			refused(t, "cut", s[:n], api.ErrCut)
		}
	}
}

// Promise 9.1: something behind it.
func TestDecodeJobLeft(t *testing.T) {
	for _, j := range someJobs() {
		for _, behind := range []string{"\x00", "\x01", "\xff", "more", put(j)} {
			refused(t, "something behind it", put(j)+behind, api.ErrMore)
		}
	}
}

// Promise 9.1: each number in a longer form.
func TestDecodeJobForm(t *testing.T) {
	s := "\x03bfs\x01\x02\x04\x01\x02\x06\x01\x02\x05\x07\x03"
	if _, e := run.DecodeJob(s); e != api.OK {
		t.Fatalf("error %d", e)
	}
	for i := range len(s) {
		if i >= 1 && i <= 3 {
			continue
		}
		refused(t, "a longer form", s[:i]+string([]byte{s[i] | 128, 0})+s[i+1:], api.ErrForm)
		refused(t, "no number", s[:i]+"\xff\xff\xff\xff\xff\xff\xff\xff\xff\x02"+s[i+1:], api.ErrForm)
	}
}

// Promise 9.1: a graph that may not be is told behind its last vertex, ahead of all that comes then.
func TestDecodeJobGraph(t *testing.T) {
	for _, g := range badGraphs() {
		if len(g.Vertices) > api.MaxVertices {
			refused(t, "too many vertices", put(job("cc", g)), api.ErrMore)
			continue
		}
		s, want := put(job("cc", g)), graph.Check(g)
		refused(t, "a graph", s, want)
		refused(t, "a graph, and something behind it", s+"\x00", want)
		refused(t, "a graph, and no program", put(limited(job("none", g), 0, 0, 0)), want)
		end := len(s) - len(number(0)+number(api.MaxSteps)+number(api.MaxSent)+number(1))
		for n := range end {
			if n < 3 || n%101 == 0 || n > end-20 {
				refused(t, "a graph that is cut", s[:n], api.ErrCut)
			}
		}
		for n := end; n <= len(s); n++ {
			refused(t, "a graph, and cut behind it", s[:n], want)
		}
		refused(t, "a graph, and too many parameters", s[:end]+"\x05", want)
		refused(t, "a graph, and bytes of another form", s[:end]+"\x80\x00", want)
	}
	refused(t, "too many vertices, and nothing behind it", "\x02cc"+number(api.MaxVertices+1), api.ErrMore)
	refused(t, "too many edges of one", "\x02cc\x01\x00\x00"+number(api.MaxEdges+1), api.ErrMore)
	refused(t, "a program that is longer than all", "\xff\xff\xff\xff\xff\xff\xff\xff\xff\x01cc", api.ErrCut)
}

// Promise 9.1: more parameters than there may be, and as many.
func TestDecodeJobParams(t *testing.T) {
	ahead, behind := "\x02cc\x00", "\x01\x00\x01"
	for _, n := range []uint64{api.MaxParams + 1, 6, 1 << 32, 1 << 63, math.MaxUint64} {
		refused(t, "too many parameters", ahead+wire.Number(n), api.ErrMore)
		refused(t, "too many parameters, and bytes behind", ahead+wire.Number(n)+"\x01\x02\x03\x04\x05"+behind, api.ErrMore)
	}
	for n := 1; n <= api.MaxParams; n++ {
		refused(t, "parameters of a program that has none", ahead+number(n)+"\x01\x02\x03\x04"[:n]+behind, api.ErrParams)
	}
	for _, x := range bads() {
		if x.err == api.ErrParams && len(x.j.Params) <= api.MaxParams {
			refused(t, "parameters", put(x.j), api.ErrParams)
			refused(t, "parameters, and something behind it", put(x.j)+"\x00", api.ErrParams)
		}
	}
}

// Promise 9.1: limits that are above the greatest ones are more than there may be, at once; those that are too small are Check's.
func TestDecodeJobLimits(t *testing.T) {
	ahead := "\x04none\x00\x00"
	for _, n := range []uint64{api.MaxSteps + 1, 1 << 31, 1<<32 + 1, 1 << 63, math.MaxUint64} {
		refused(t, "Steps", ahead+wire.Number(n), api.ErrMore)
		refused(t, "Steps, and all behind it", ahead+wire.Number(n)+"\x01\x01", api.ErrMore)
	}
	for _, n := range []uint64{api.MaxSent + 1, 1 << 31, 1<<32 + 1, 1 << 63, math.MaxUint64} {
		refused(t, "Sent", ahead+"\x01"+wire.Number(n), api.ErrMore)
		refused(t, "Sent, and all behind it", ahead+"\x01"+wire.Number(n)+"\x01", api.ErrMore)
	}
	for _, n := range []uint64{api.MaxParts + 1, 1 << 31, 1<<32 + 1, 1 << 63, math.MaxUint64} {
		refused(t, "Parts", ahead+"\x01\x00"+wire.Number(n), api.ErrMore)
	}
	for _, n := range [][3]int{{0, 9, 1}, {9, 9, 0}, {0, 0, 0}} {
		s := put(limited(job("cc", small()), n[0], n[1], n[2]))
		refused(t, "limits", s, api.ErrLimit)
		refused(t, "limits, and something behind it", s+"\x00", api.ErrLimit)
	}
}

// Promise 9.1: behind the last number the first of Check's errors, ahead of bytes that are left.
func TestDecodeJobProgram(t *testing.T) {
	for _, name := range strangers() {
		s := put(job(name, small()))
		refused(t, "no program", s, api.ErrProgram)
		refused(t, "no program, and something behind it", s+"\x00", api.ErrProgram)
		refused(t, "no program, parameters and limits", put(limited(job(name, small(), 1, 2), 0, 0, 0)), api.ErrProgram)
		refused(t, "parameters and limits", put(limited(job("cc", small(), 1, 2), 0, 0, 0)), api.ErrParams)
		for n := range len(s) {
			refused(t, "no program, and cut", s[:n], api.ErrCut)
		}
	}
}

// Promise 9.1: any bytes are the bytes of the job that they tell, or none.
func TestDecodeJobAny(t *testing.T) {
	told := 0
	for _, j := range someJobs() {
		s := []byte(put(j))
		for i := range s {
			for _, b := range []byte{0, 1, 2, 3, 5, 16, 17, 127, 128, 255, s[i] + 1, s[i] - 1} {
				other := slices.Clone(s)
				other[i] = b
				got, e := run.DecodeJob(string(other))
				if e != api.OK {
					refused(t, "a byte changed", string(other), e)
					continue
				}
				told++
				if again, f := run.EncodeJob(got); again != string(other) || f != api.OK || run.Check(got) != api.OK {
					t.Errorf("%q is told as %v, which is %q, error %d", other, got, again, f)
				}
			}
		}
	}
	if told == 0 {
		t.Error("no job was told")
	}
}

// Promise 9.1: between other bytes, which are left.
func TestPutJob(t *testing.T) {
	w := wire.NewWriter()
	for _, j := range someJobs() {
		before := cloneJob(j)
		w.Text("ab")
		run.PutJob(w, j)
		w.Signed(-7)
		if !sameJob(j, before) {
			t.Errorf("the job became %v", j)
		}
	}
	r := wire.NewReader(w.All())
	for _, j := range someJobs() {
		if s := r.Text(); s != "ab" {
			t.Fatalf("ahead of %v: %q", j, s)
		}
		at := r.At()
		if got := run.TakeJob(r); !sameJob(got, j) || r.Err() != api.OK || r.At() != at+len(put(j)) {
			t.Fatalf("%v, not %v, error %d", got, j, r.Err())
		}
		if n := r.Signed(); n != -7 {
			t.Fatalf("behind %v: %d", j, n)
		}
	}
	if e := r.End(); e != api.OK {
		t.Errorf("at the end: error %d", e)
	}
}

// Promise 9.1: jobs that may not be are put as they are, numbers below 0 as 0, and are not taken.
func TestPutJobBad(t *testing.T) {
	for _, x := range bads() {
		w := wire.NewWriter()
		run.PutJob(w, x.j)
		if w.All() != put(x.j) {
			t.Errorf("%s: other bytes", x.name)
		}
		// Sent of 0 may be.
		if x.j.Sent < 0 && x.j.Steps > 0 && x.j.Parts > 0 {
			continue
		}
		if j, e := run.DecodeJob(w.All()); e == api.OK || !isZero(j) {
			t.Errorf("%s: %v with error %d", x.name, j, e)
		}
	}
}

// Promise 9.1: off a reader that has an error there is no job, and the error stays.
func TestTakeJobBehindError(t *testing.T) {
	for _, j := range someJobs() {
		for _, e := range []api.Errno{api.ErrArg, api.ErrCut, api.ErrForm, api.ErrMore, api.ErrLimit} {
			r := wire.NewReader(put(j))
			r.Fail(e)
			if got := run.TakeJob(r); !isZero(got) || r.Err() != e || r.At() != 0 {
				t.Errorf("behind error %d: %v with error %d at %d", e, got, r.Err(), r.At())
			}
		}
	}
	if j := run.TakeJob(nil); !isZero(j) {
		t.Errorf("off no reader: %v", j)
	}
	run.PutJob(nil, job("cc", small()))
}
