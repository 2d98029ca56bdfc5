package serve_test

import (
	"fmt"
	"math/rand"
	"reflect"
	"strings"
	"testing"

	"cohort/api"
	"cohort/run"
	"cohort/serve"
)

// form is what is said, and its bytes as the chapter has them.
type form struct {
	what string
	x    api.Say
	s    string
}

// aReport is a report that has all that reports have, and its bytes.
func aReport() (api.Report, string) {
	r := api.Report{Job: 1, Epoch: 2, Step: 3, Phase: 4, Worker: 5, Err: 20, Sent: 300, Active: 7, Many: most, Values: []api.Value{{ID: -1, V: 2}, {ID: greatest, V: least}}}
	r.Agg.Has[api.AggMax], r.Agg.V[api.AggMax] = true, -9
	return r, numbers(1, 2, 3, 4, 5, 20, 300, 7, most) + numbers(0, 0, 1) + signed(-9) + numbers(0, 0) + numbers(2) + signed(-1, 2, greatest, least)
}

// aTask is a task that has all that tasks have, and its bytes.
func aTask() (api.Task, string) {
	t := api.Task{Job: 1, Epoch: 2, Step: 3, Phase: 4, Many: 5, From: 6, FromEpoch: 700, Parts: []int{0, 2}, Assigned: []int{63, 1, 63}, Keep: true, Spec: degree()}
	t.Before.Has[api.AggSum], t.Before.V[api.AggSum] = true, 1000
	return t, numbers(1, 2, 3, 4, 5, 6, 700, 2, 0, 2, 3, 63, 1, 63, 1) + numbers(1) + signed(1000) + numbers(0, 0, 0, 0) + jobText(degree())
}

// forms is everything that can be said.
func forms() []form {
	report, reportBytes := aReport()
	task, taskBytes := aTask()
	v := api.ViewMsg{Kind: api.ViewBegin, From: 6, To: 300, View: 4, Normal: 3, Index: 2, Commit: 1, BaseIndex: 9, BaseView: most, Base: "base", Entries: []api.LogEntry{{View: 7, S: "one"}, {View: 8}}}
	viewBytes := numbers(5, 6, 300, 4, 3, 2, 1, 9, most) + text("base") + numbers(2, 7) + text("one") + numbers(8, 0)
	done := api.Outcome{Kind: api.Done, Steps: 1000, Values: []api.Value{{ID: 1, V: -1}, {ID: 2, V: 300}}}
	doneBytes := text(numbers(1, 0, 1000, 2) + signed(1, -1, 2, 300))
	failed := api.Outcome{Kind: api.Failed, Err: api.ErrQuota, Steps: 3}
	batch := api.Batch{Job: 1, Epoch: 2, Step: 3, From: 4, Messages: []api.Message{{From: -1, To: 2, At: 300, V: least}}, Mutations: []api.Mutation{{Kind: api.MutAddEdge, ID: -5, To: 6, V: 7}, {Kind: api.MutRemoveVertex, ID: 8}}}
	batchBytes := numbers(1, 2, 3, 4, 1) + signed(-1, 2) + numbers(300) + signed(least) + numbers(2, 4) + signed(-5, 6, 7) + numbers(2) + signed(8, 0, 0)
	l := []form{
		{"a message of masters", viewSay(v), numbers(1) + viewBytes},
		{"an empty message of masters", viewSay(api.ViewMsg{}), numbers(1, 0, 0, 0, 0, 0, 0, 0, 0, 0, 0, 0)},
		{"a beat", beatSay(63, most), numbers(2, 63, most, 0)},
		{"a beat of nobody", beatSay(0, 0), numbers(2, 0, 0, 0)},
		{"a beat with a report", reportSay(300, 1, report), numbers(2, 300, 1, 1) + reportBytes},
		{"a beat with an empty report", reportSay(1, 1, api.Report{}), numbers(2, 1, 1, 1) + numbers(make([]int, 15)...)},
		{"a task", taskSay(task), numbers(3, 1) + taskBytes},
		{"no task", idle(), numbers(3, 0)},
		{"an empty batch", api.Say{Kind: api.SayBatch}, numbers(7, 0, 0, 0, 0, 0, 0)},
		{"a batch", api.Say{Kind: api.SayBatch, Batch: batch}, numbers(7) + batchBytes},
		{"an acknowledgement", api.Say{Kind: api.SayAck, Batch: batch}, numbers(8) + batchBytes},
		{"an acknowledgement as there are", api.Say{Kind: api.SayAck, Batch: api.Batch{Job: most, Epoch: 3, Step: 1000, From: 63}}, numbers(8, most, 3, 1000, 63, 0, 0)},
		{"a submission", askSay(api.Ask{Kind: 1, Session: -300, Seq: 5, ID: 7, S: "job\x00\xff"}), numbers(5, 1) + signed(-300) + numbers(5, 7) + text("job\x00\xff")},
		{"a long submission", askSubmit(greatest, most, strings.Repeat("x", 300)), numbers(5, 1) + signed(greatest) + numbers(most, 0) + text(strings.Repeat("x", 300))},
		{"a cancellation", askCancel(least, 1, most), numbers(5, 2) + signed(least) + numbers(1, most, 0)},
		{"a question", askStatus(1, 0, 2), numbers(5, 3) + signed(1) + numbers(0, 2, 0)},
		{"no question", askSay(api.Ask{}), numbers(5, 0, 0, 0, 0, 0)},
		{"what is told of a submission", toldSay(1, -300, 5, api.Reply{ID: 7}, api.Status{}), numbers(6, 1) + signed(-300) + numbers(5, 0, 7, 0, 0, 0, 0) + text(numbers(0, 0, 0, 0))},
		{"an error", toldSay(2, 300, most, api.Reply{Err: api.ErrJob}, api.Status{}), numbers(6, 2) + signed(300) + numbers(most, 170, 0, 0, 0, 0, 0) + text(numbers(0, 0, 0, 0))},
		{"the greatest numbers", toldSay(3, greatest, most, api.Reply{Err: most, ID: most}, api.Status{ID: most, State: most, Step: most, Epoch: most}), numbers(6, 3) + signed(greatest) + numbers(most, most, most, most, most, most, most) + text(numbers(0, 0, 0, 0))},
		{"one that runs", toldSay(3, 1, 0, api.Reply{}, api.Status{ID: 1, State: 2, Step: 300, Epoch: 4}), numbers(6, 3) + signed(1) + numbers(0, 0, 0, 1, 2, 300, 4) + text(numbers(0, 0, 0, 0))},
		{"one that is done", toldSay(3, 1, 9, api.Reply{}, api.Status{ID: 64, State: 3, Outcome: done}), numbers(6, 3) + signed(1) + numbers(9, 0, 0, 64, 3, 0, 0) + doneBytes},
		{"one that failed", toldSay(3, 1, 9, api.Reply{}, api.Status{ID: 1, State: 3, Outcome: failed}), numbers(6, 3) + signed(1) + numbers(9, 0, 0, 1, 3, 0, 0) + text(numbers(2, 92, 3, 0))},
		{"nothing told", api.Say{Kind: api.SayTold}, numbers(6, 0, 0, 0, 0, 0, 0, 0, 0, 0) + text(numbers(0, 0, 0, 0))},
	}
	for leader := -1; leader < api.MaxMasters; leader++ {
		l = append(l, form{fmt.Sprint("leader ", leader), hintSay(leader), numbers(4) + signed(int64(leader))})
	}
	return l
}

// refused tells whether bytes say nothing, with that error.
func refused(t *testing.T, what, s string, want api.Errno) {
	t.Helper()
	if x, e := serve.Decode(s); e != want || !reflect.DeepEqual(x, api.Say{}) {
		t.Errorf("%s, %.100q: %v with error %d, not %d", what, s, x, e, want)
	}
}

// takes tells whether bytes say just that.
func takes(t *testing.T, what, s string, want api.Say) {
	t.Helper()
	if x, e := serve.Decode(s); e != api.OK || !sameSay(x, want) {
		t.Errorf("%s, %.100q: %v with error %d, not %v", what, s, x, e, want)
	}
}

// Promise 18.1: all that is said, by its bytes.
func TestForms(t *testing.T) {
	for _, f := range forms() {
		was := as(f.x)
		if s := serve.Encode(f.x); s != f.s {
			t.Errorf("%s: %q, not %q", f.what, s, f.s)
		}
		if !reflect.DeepEqual(as(f.x), was) {
			t.Errorf("%s: what is said is another one behind Encode", f.what)
		}
		takes(t, f.what, f.s, f.x)
	}
}

// Promise 18.1: bytes that break off anywhere tell the reader's error, and bytes that are more ErrMore.
func TestCutAndMore(t *testing.T) {
	for _, f := range forms() {
		for n := range len(f.s) {
			refused(t, fmt.Sprint(f.what, " up to ", n), f.s[:n], api.ErrCut)
		}
		refused(t, f.what+" and a byte", f.s+"\x00", api.ErrMore)
		refused(t, f.what+" and half a number", f.s+"\x80", api.ErrMore)
		refused(t, f.what+" twice", f.s+f.s, api.ErrMore)
	}
}

// Promise 18.1: a kind that is none is ErrForm, whatever is behind it; one that can't be read is the reader's error.
func TestNoKind(t *testing.T) {
	for _, kind := range []int{0, 9, 10, 127, 128, 257, 300, most, most + 1, 1 << 40, greatest} {
		for _, behind := range []string{"", "\x00", "\x80", numbers(1, 1, 0)} {
			refused(t, fmt.Sprint("kind ", kind), numbers(kind)+behind, api.ErrForm)
		}
	}
	refused(t, "the greatest kind", strings.Repeat("\xff", 9)+"\x01", api.ErrForm)
	refused(t, "a kind that is too long", "\x81\x00", api.ErrForm)
	refused(t, "a kind of too many bytes", strings.Repeat("\xff", 10), api.ErrForm)
	refused(t, "nothing", "", api.ErrCut)
	refused(t, "half a kind", "\x82", api.ErrCut)
	for _, kind := range []int{0, 9, 300} {
		x := api.Say{Kind: kind, Worker: 1, Leader: 2, Has: true, Ask: api.Ask{Kind: 1}}
		if s := serve.Encode(x); s != numbers(kind) {
			t.Errorf("kind %d is %q", kind, s)
		}
	}
	if s := serve.Encode(api.Say{Kind: -1}); s != numbers(0) {
		t.Errorf("kind -1 is %q", s)
	}
}

// Promise 18.1: of what is said the fields of its kind alone are put.
func TestOfItsKindAlone(t *testing.T) {
	report, _ := aReport()
	task, _ := aTask()
	full := api.Say{
		View: api.ViewMsg{Kind: 1, From: 1, Base: "x"}, Worker: 1, Life: 2, Has: true, Report: report, Task: task, Leader: 3, Ask: api.Ask{Kind: 2, S: "x"},
		Told:  api.Told{Kind: 3, Status: api.Status{ID: 1, Outcome: api.Outcome{Kind: 1, Values: []api.Value{{ID: 1, V: 1}}}}},
		Batch: api.Batch{Job: 1, Messages: []api.Message{{To: 1}}},
	}
	for kind, want := range map[int]api.Say{
		api.SayView:  {View: full.View},
		api.SayBeat:  {Worker: 1, Life: 2, Has: true, Report: report},
		api.SayTask:  {Has: true, Task: task},
		api.SayHint:  {Leader: 3},
		api.SayAsk:   {Ask: full.Ask},
		api.SayTold:  {Told: full.Told},
		api.SayBatch: {Batch: full.Batch},
		api.SayAck:   {Batch: full.Batch},
	} {
		full.Kind, want.Kind = kind, kind
		takes(t, fmt.Sprint("kind ", kind), serve.Encode(full), want)
	}
	full.Has = false
	full.Kind = api.SayBeat
	takes(t, "a report that is none", serve.Encode(full), beatSay(1, 2))
	full.Kind = api.SayTask
	takes(t, "a task that is none", serve.Encode(full), idle())
}

// Promise 18.1: a number beyond its bound is ErrMore, and one that is not of the form ErrForm.
func TestBeyond(t *testing.T) {
	over := most + 1
	report, _ := aReport()
	none := text(numbers(0, 0, 0, 0))
	for what, s := range map[string]string{
		"a message's kind":         numbers(1, over, 0, 0, 0, 0, 0, 0, 0, 0, 0, 0),
		"a message's base view":    numbers(1, 0, 0, 0, 0, 0, 0, 0, 0, over, 0, 0),
		"a message's entries":      numbers(1, 0, 0, 0, 0, 0, 0, 0, 0, 0, 0, api.MaxEntries+1),
		"a beat's worker":          numbers(2, over, 1, 0),
		"a beat's life":            numbers(2, 1, over, 0),
		"a report's job":           numbers(2, 1, 1, 1, over),
		"a report's values":        numbers(2, 1, 1, 1) + numbers(make([]int, 14)...) + numbers(api.MaxVertices+1),
		"a task's job":             numbers(3, 1, over),
		"a task's parts":           numbers(3, 1, 1, 1, 1, 1, 1, 1, 1, api.MaxParts+1),
		"a leader":                 numbers(4) + signed(api.MaxMasters),
		"a great leader":           numbers(4) + signed(greatest),
		"a kind of asking":         numbers(5, 4, 0, 0, 0, 0),
		"an asking's number":       numbers(5, 1, 0, over, 0, 0),
		"an asking's job":          numbers(5, 1, 0, 0, over, 0),
		"a kind of telling":        numbers(6, 4, 0, 0, 0, 0, 0, 0, 0, 0) + none,
		"a telling's number":       numbers(6, 1, 0, over, 0, 0, 0, 0, 0, 0) + none,
		"a reply's error":          numbers(6, 1, 0, 0, over, 0, 0, 0, 0, 0) + none,
		"a reply's number":         numbers(6, 1, 0, 0, 0, over, 0, 0, 0, 0) + none,
		"a status' number":         numbers(6, 1, 0, 0, 0, 0, over, 0, 0, 0) + none,
		"a status' state":          numbers(6, 1, 0, 0, 0, 0, 0, over, 0, 0) + none,
		"a status' superstep":      numbers(6, 1, 0, 0, 0, 0, 0, 0, over, 0) + none,
		"a status' epoch":          numbers(6, 1, 0, 0, 0, 0, 0, 0, 0, over) + none,
		"an outcome's kind":        numbers(6, 1, 0, 0, 0, 0, 0, 0, 0, 0) + text(numbers(3, 0, 0, 0)),
		"an outcome's error":       numbers(6, 1, 0, 0, 0, 0, 0, 0, 0, 0) + text(numbers(1, 1001, 0, 0)),
		"an outcome's supersteps":  numbers(6, 1, 0, 0, 0, 0, 0, 0, 0, 0) + text(numbers(1, 0, 1001, 0)),
		"an outcome's values":      numbers(6, 1, 0, 0, 0, 0, 0, 0, 0, 0) + text(numbers(1, 0, 0, 257)),
		"more than an outcome":     numbers(6, 1, 0, 0, 0, 0, 0, 0, 0, 0) + text(numbers(1, 0, 0, 0, 0)),
		"a batch's job":            numbers(7, over, 0, 0, 0, 0, 0),
		"a batch's epoch":          numbers(7, 0, over, 0, 0, 0, 0),
		"a batch's superstep":      numbers(7, 0, 0, over, 0, 0, 0),
		"a batch's worker":         numbers(7, 0, 0, 0, over, 0, 0),
		"a batch's messages":       numbers(8, 0, 0, 0, 0, api.MaxSent+1, 0),
		"a batch's requests":       numbers(8, 0, 0, 0, 0, 0, api.MaxSent+1),
		"the place of a message":   numbers(8, 0, 0, 0, 0, 1, 0, 0, api.MaxSent+1, 0, 0),
		"the kind of a request":    numbers(8, 0, 0, 0, 0, 0, 1, 5, 0, 0, 0),
		"a number and then a form": numbers(5, 4) + "\x80\x00",
	} {
		refused(t, what, s, api.ErrMore)
	}
	for what, s := range map[string]string{
		"a leader":                    numbers(4) + signed(-2),
		"a leader far below":          numbers(4) + signed(least),
		"whether there is a report":   numbers(2, 1, 1, 2),
		"whether there is a task":     numbers(3, 2),
		"a request that may not be":   numbers(7, 0, 0, 0, 0, 0, 1, 0, 0, 0, 0),
		"a request with more":         numbers(7, 0, 0, 0, 0, 0, 1, 2, 0, 2, 0),
		"a number that is too long":   numbers(5, 3, 0) + "\x80\x00",
		"an outcome's form":           numbers(6, 1, 0, 0, 0, 0, 0, 0, 0, 0) + text("\x80\x00"),
		"a form and then more":        numbers(3, 2, 0),
		"whether an aggregate has it": numbers(2, 1, 1, 1) + numbers(make([]int, 9)...) + numbers(2),
	} {
		refused(t, what, s, api.ErrForm)
	}
	refused(t, "an outcome that breaks off", numbers(6, 1, 0, 0, 0, 0, 0, 0, 0, 0)+text(numbers(1, 0, 0)), api.ErrCut)
	refused(t, "an outcome that is not there", numbers(6, 1, 0, 0, 0, 0, 0, 0, 0, 0)+text(""), api.ErrCut)
	report.Values = make([]api.Value, api.MaxVertices)
	takes(t, "as many values as there may be", serve.Encode(reportSay(1, 1, report)), reportSay(1, 1, report))
	task, _ := aTask()
	task.Spec.Program = "none"
	refused(t, "a task of no program", serve.Encode(taskSay(task)), api.ErrProgram)
	task.Spec = degree()
	task.Spec.Parts = 0
	refused(t, "a task of no job", serve.Encode(taskSay(task)), api.ErrLimit)
}

// Promise 18.1: numbers below 0 are put as 0, where they count things.
func TestBelow(t *testing.T) {
	if s := serve.Encode(beatSay(-1, -5)); s != numbers(2, 0, 0, 0) {
		t.Errorf("%q", s)
	}
	if s := serve.Encode(askSay(api.Ask{Kind: -1, Session: -1, Seq: -2, ID: -3})); s != numbers(5, 0)+signed(-1)+numbers(0, 0, 0) {
		t.Errorf("%q", s)
	}
	x := toldSay(-1, -1, -2, api.Reply{Err: -1, ID: -1}, api.Status{ID: -1, State: -1, Step: -1, Epoch: -1, Outcome: api.Outcome{Kind: -1, Err: -1, Steps: -1}})
	if s := serve.Encode(x); s != numbers(6, 0)+signed(-1)+numbers(0, 0, 0, 0, 0, 0, 0)+text(numbers(0, 0, 0, 0)) {
		t.Errorf("%q", s)
	}
	if s := serve.Encode(api.Say{Kind: api.SayAck, Batch: api.Batch{Job: -1, Epoch: least, Step: -3, From: -4}}); s != numbers(8, 0, 0, 0, 0, 0, 0) {
		t.Errorf("%q", s)
	}
}

// Promise 18.1: what was told is the caller's own, and as it was when it was decoded.
func TestOwnLists(t *testing.T) {
	for _, f := range forms() {
		a, e := serve.Decode(f.s)
		if e != api.OK {
			t.Fatalf("%s: error %d", f.what, e)
		}
		for i := range a.View.Entries {
			a.View.Entries[i].S = "other"
		}
		clear(a.Report.Values)
		clear(a.Task.Parts)
		clear(a.Task.Assigned)
		clear(a.Batch.Messages)
		clear(a.Batch.Mutations)
		clear(a.Told.Status.Outcome.Values)
		takes(t, f.what, f.s, f.x)
	}
}

// Promise 18.1: any bytes are taken or refused, and those that are taken are the form of what they say.
func TestOneForm(t *testing.T) {
	r := rand.New(rand.NewSource(18))
	l := forms()
	taken := map[int]int{}
	for range 200000 {
		b := []byte(l[r.Intn(len(l))].s)
		for range 1 + r.Intn(3) {
			at := r.Intn(len(b))
			switch r.Intn(4) {
			case 0:
				b[at] = byte(r.Intn(256))
			case 1:
				b[at] ^= 1 << r.Intn(8)
			case 2:
				b = append(b[:at:at], b[min(at+1, len(b)-1):]...)
			default:
				b = append(b[:at:at], append([]byte{byte(r.Intn(4))}, b[at:]...)...)
			}
		}
		x, e := serve.Decode(string(b))
		if e != api.OK {
			if !reflect.DeepEqual(x, api.Say{}) {
				t.Fatalf("%q: %v beside error %d", b, x, e)
			}
			continue
		}
		taken[x.Kind]++
		if s := serve.Encode(x); s != string(b) {
			t.Fatalf("%q is taken, and put as %q", b, s)
		}
	}
	for kind := api.SayView; kind <= api.SayAck; kind++ {
		if taken[kind] < 100 {
			t.Errorf("kind %d was taken %d times", kind, taken[kind])
		}
	}
}

// Promise 18.1: an outcome of each kind, as run tells it.
func TestOutcomes(t *testing.T) {
	for _, o := range []api.Outcome{{}, {Kind: api.Done, Steps: 2, Values: []api.Value{{ID: 1, V: 1}}}, {Kind: api.Failed, Err: api.ErrSteps, Steps: 1000}, {Kind: api.Failed, Err: api.ErrOverflow}, {Kind: api.Failed, Err: 1000}} {
		x := toldSay(api.AskStatus, 7, 8, api.Reply{}, api.Status{ID: 1, State: api.Ended, Outcome: o})
		takes(t, fmt.Sprint(o), serve.Encode(x), x)
		if !strings.HasSuffix(serve.Encode(x), text(run.Encode(o))) {
			t.Errorf("%v: %q", o, serve.Encode(x))
		}
	}
}
