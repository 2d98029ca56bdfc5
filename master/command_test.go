package master_test

import (
	"fmt"
	"math"
	"slices"
	"testing"

	"cohort/api"
	"cohort/master"
	"cohort/wire"
)

// laidAggregate is an aggregate's bytes.
func laidAggregate(x api.Aggregate) string {
	s := ""
	for kind, has := range x.Has {
		if has {
			s += "\x01" + signed(x.V[kind])
		} else {
			s += "\x00"
		}
	}
	return s
}

// laidReport is the bytes that the document gives to a report.
func laidReport(x api.Report) string {
	s := ""
	for _, n := range []int{x.Job, x.Epoch, x.Step, x.Phase, x.Worker, int(x.Err), x.Sent, x.Active, x.Many} {
		s += number(max(n, 0))
	}
	s += laidAggregate(x.Agg) + number(len(x.Values))
	for _, v := range x.Values {
		s += signed(v.ID) + signed(v.V)
	}
	return s
}

// laidCommand is the bytes that the document gives to a command.
func laidCommand(c api.Command) string {
	s := number(c.Kind)
	switch c.Kind {
	case api.CmdSubmit:
		return s + signed(c.Session) + number(max(c.Seq, 0)) + number(len(c.S)) + c.S
	case api.CmdCancel:
		return s + signed(c.Session) + row(max(c.Seq, 0), max(c.ID, 0))
	case api.CmdReport:
		return s + laidReport(c.Report)
	}
	return s + row(max(c.Worker, 0), max(c.Life, 0))
}

func laidTask(x api.Task) string {
	s := ""
	for _, n := range []int{x.Job, x.Epoch, x.Step, x.Phase, x.Many, x.From, x.FromEpoch} {
		s += number(max(n, 0))
	}
	for _, l := range [][]int{x.Parts, x.Assigned} {
		s += number(len(l))
		for _, n := range l {
			s += number(max(n, 0))
		}
	}
	if x.Keep {
		s += "\x01"
	} else {
		s += "\x00"
	}
	return s + laidAggregate(x.Before) + text(x.Spec)
}

// full is an aggregate with values of all kinds.
func full() api.Aggregate {
	return api.Aggregate{Has: [api.Aggs]bool{true, true, true, true, true}, V: [api.Aggs]int64{-1, least, greatest, 300, 0}}
}

func values(n int) []api.Value {
	var l []api.Value
	for i := range n {
		l = append(l, api.Value{ID: int64(3*i - 200), V: int64(i) << 40})
	}
	return l
}

// someReports is reports that bytes can tell.
func someReports() []api.Report {
	return []api.Report{
		{},
		{Job: 1, Epoch: 2, Step: 3, Phase: 4, Worker: 5, Err: 6, Sent: 7, Active: 8, Many: 9},
		{Job: 300, Epoch: most, Step: 128, Phase: most, Worker: most, Err: most, Sent: most, Active: most, Many: most, Agg: full(), Values: values(3)},
		{Worker: 63, Err: api.ErrOverflow, Agg: gives(api.AggSum, -64), Values: []api.Value{{ID: least, V: greatest}, {ID: least, V: greatest}, {ID: -9, V: 4}}},
		{Values: values(api.MaxVertices)},
	}
}

// someCommands is commands that bytes can tell.
func someCommands() []api.Command {
	l := []api.Command{
		submit(0, 0, ""), submit(-1, 1, "no job"), submit(greatest, most, text(spec(9, 9, 2))), submit(least, 300, "\x00\xff"),
		cancel(0, 0, 0), cancel(-5, 7, 64), cancel(least, most, most), cancel(150, 300, 1),
		join(0, 0), join(63, 1), join(most, most), join(300, 128), lose(0, 0), lose(5, 9), lose(most, most),
	}
	for _, r := range someReports() {
		l = append(l, reports(r))
	}
	return l
}

// someTasks is tasks that bytes can tell.
func someTasks() []api.Task {
	j := spec(9, 8, 7)
	return []api.Task{
		{Spec: j},
		{Job: 1, Epoch: 2, Step: 3, Phase: 4, Parts: []int{5, 6}, Assigned: []int{7, 8, 9}, Spec: j, Before: gives(api.AggMin, -3), Many: 10, From: 11, FromEpoch: 12, Keep: true},
		{Job: most, Epoch: most, Step: most, Phase: most, Parts: []int{most}, Assigned: []int{0, most}, Spec: api.Job{Program: "cc", Steps: 1, Parts: 1}, Before: full(), Many: most, From: most, FromEpoch: most},
		{Parts: make([]int, api.MaxParts), Assigned: slices.Repeat([]int{300}, api.MaxParts), Spec: j, Keep: true},
	}
}

func notCommand(t *testing.T, what, s string, e api.Errno) {
	t.Helper()
	if c, f := master.DecodeCommand(s); f != e || !sameCommand(c, api.Command{}) {
		t.Errorf("%s, %.80q: %v with error %d, not %d", what, s, c, f, e)
	}
}

// Promise 17.3: the bytes of each kind, one by one.
func TestCommandBytes(t *testing.T) {
	for _, x := range []struct {
		c    api.Command
		want string
	}{
		{submit(-1, 300, "ab"), "\x01\x01\xac\x02\x02ab"},
		{cancel(150, 2, 3), "\x02\xac\x02\x02\x03"},
		{join(5, 6), "\x03\x05\x06"},
		{lose(300, 1), "\x04\xac\x02\x01"},
		{reports(someReports()[1]), "\x05\x01\x02\x03\x04\x05\x06\x07\x08\x09\x00\x00\x00\x00\x00\x00"},
		{reports(api.Report{Agg: gives(api.AggMin, -1), Values: []api.Value{{ID: 1, V: -2}}}), "\x05\x00\x00\x00\x00\x00\x00\x00\x00\x00\x00\x01\x01\x00\x00\x00\x01\x02\x03"},
	} {
		if s, e := master.EncodeCommand(x.c); s != x.want || e != api.OK {
			t.Errorf("%v is %q with error %d, not %q", x.c, s, e, x.want)
		}
		if c, e := master.DecodeCommand(x.want); !sameCommand(c, x.c) || e != api.OK {
			t.Errorf("%q is %v with error %d, not %v", x.want, c, e, x.c)
		}
	}
}

// Promise 17.3: there and back; what is not of the kind is not told.
func TestCommandThereAndBack(t *testing.T) {
	for _, c := range someCommands() {
		s, e := master.EncodeCommand(c)
		if s != laidCommand(c) || e != api.OK {
			t.Errorf("%v is %.80q with error %d", c, s, e)
		}
		if got, e := master.DecodeCommand(s); !sameCommand(got, c) || e != api.OK {
			t.Errorf("%v became %v with error %d", c, got, e)
		}
		other := api.Command{Kind: c.Kind, Session: 1, Seq: 2, S: "three", ID: 4, Worker: 5, Life: 6, Report: someReports()[1]}
		s, e = master.EncodeCommand(other)
		if s != laidCommand(other) || e != api.OK {
			t.Errorf("%v is %q with error %d", other, s, e)
		}
	}
}

// Promise 17.3: another kind is no command.
func TestEncodeOtherKinds(t *testing.T) {
	for _, kind := range []int{0, 6, 7, 100, -1, math.MinInt, math.MaxInt} {
		if s, e := master.EncodeCommand(api.Command{Kind: kind, Seq: 1, S: "a"}); s != "" || e != api.ErrCmd {
			t.Errorf("kind %d: %q, error %d", kind, s, e)
		}
	}
	for _, kind := range []int{0, 6, 7, 127, 128, 300, most} {
		notCommand(t, "no such kind", number(kind), api.ErrCmd)
		notCommand(t, "no such kind, and bytes behind", number(kind)+"\x01\x02\x03", api.ErrCmd)
	}
}

// Promise 17.3: numbers below 0 are put as 0.
func TestEncodeBelowZero(t *testing.T) {
	for _, n := range []int{-1, -300, math.MinInt} {
		for _, x := range []struct {
			c, want api.Command
		}{
			{submit(-7, n, "a"), submit(-7, 0, "a")},
			{cancel(-7, n, n), cancel(-7, 0, 0)},
			{cancel(7, 1, n), cancel(7, 1, 0)},
			{join(n, 1), join(0, 1)}, {join(1, n), join(1, 0)}, {lose(n, n), lose(0, 0)},
			{reports(api.Report{Job: n, Epoch: n, Step: n, Phase: n, Worker: n, Err: api.Errno(n), Sent: n, Active: n, Many: n}), reports(api.Report{})},
		} {
			s, e := master.EncodeCommand(x.c)
			if got, f := master.DecodeCommand(s); e != api.OK || f != api.OK || !sameCommand(got, x.want) {
				t.Errorf("%v became %v with errors %d, %d", x.c, got, e, f)
			}
		}
		w := wire.NewWriter()
		x := someTasks()[1]
		y := x
		x.Job, x.Epoch, x.Step, x.Phase, x.Many, x.From, x.FromEpoch, x.Parts, x.Assigned = n, n, n, n, n, n, n, []int{1, n}, []int{n}
		y.Job, y.Epoch, y.Step, y.Phase, y.Many, y.From, y.FromEpoch, y.Parts, y.Assigned = 0, 0, 0, 0, 0, 0, 0, []int{1, 0}, []int{0}
		master.PutTask(w, x)
		if got := master.TakeTask(wire.NewReader(w.All())); !sameTask(got, y) || w.All() != laidTask(y) {
			t.Errorf("%v became %v", x, got)
		}
	}
}

// Promise 17.3: cut at any place, something behind it, and numbers in another form.
func TestDecodeCommandForms(t *testing.T) {
	for _, c := range someCommands() {
		s := laidCommand(c)
		for n := range len(s) {
			if n < 200 || n > len(s)-200 {
				notCommand(t, "cut", s[:n], api.ErrCut)
			}
		}
		for _, behind := range []string{"\x00", "\xff", "more", s} {
			notCommand(t, "something behind it", s+behind, api.ErrMore)
		}
	}
	for _, s := range []string{"\x01\x02\x03\x00", "\x02\x02\x03\x04", "\x03\x05\x06", "\x04\x05\x06", "\x05\x01\x02\x03\x04\x05\x06\x07\x08\x09\x01\x00\x01\x02\x00\x01\x04\x00\x02\x01\x02\x03\x04"} {
		if _, e := master.DecodeCommand(s); e != api.OK {
			t.Errorf("%q: error %d", s, e)
		}
		for i := range len(s) {
			notCommand(t, "a longer form", s[:i]+string([]byte{s[i] | 128, 0})+s[i+1:], api.ErrForm)
			notCommand(t, "no number", s[:i]+"\xff\xff\xff\xff\xff\xff\xff\xff\xff\x02"+s[i+1:], api.ErrForm)
		}
	}
	notCommand(t, "nothing", "", api.ErrCut)
	notCommand(t, "yes and no of another form", "\x05\x01\x02\x03\x04\x05\x06\x07\x08\x09\x02\x00\x00\x00\x00\x00", api.ErrForm)
	notCommand(t, "a text that is longer than all", "\x01\x02\x01"+wire.Number(1<<63)+"abc", api.ErrCut)
}

// Promise 17.3: numbers beyond 2^31 - 1, more values than MaxVertices, more partitions than MaxParts.
func TestBeyond(t *testing.T) {
	for _, big := range []uint64{most + 1, 1 << 32, 1<<32 + 1, 1 << 63, math.MaxUint64} {
		n := wire.Number(big)
		for _, ahead := range []string{"\x01\x02", "\x02\x02", "\x02\x02\x01", "\x03", "\x03\x01", "\x04", "\x04\x01"} {
			notCommand(t, "beyond", ahead+n, api.ErrMore)
			notCommand(t, "beyond, and bytes behind", ahead+n+"\x01\x00\x00", api.ErrMore)
		}
		for i := range 9 {
			ahead := "\x00\x00\x00\x00\x00\x00\x00\x00\x00"[:i]
			notCommand(t, fmt.Sprint("beyond, in a report at ", i), "\x05"+ahead+n+"\x00\x00\x00", api.ErrMore)
			noReport(t, fmt.Sprint("beyond, at ", i), ahead+n, api.ErrMore)
		}
		for i := range 7 {
			noTask(t, fmt.Sprint("beyond, at ", i), "\x00\x00\x00\x00\x00\x00\x00"[:i]+n+"\x00", api.ErrMore)
		}
		noTask(t, "a partition beyond", row(1, 2, 3, 4, 5, 6, 7, 1)+n, api.ErrMore)
		noTask(t, "a worker beyond", row(1, 2, 3, 4, 5, 6, 7, 0, 2, 1)+n, api.ErrMore)
	}
	for _, many := range []uint64{api.MaxVertices + 1, 1 << 31, 1<<32 + 1, math.MaxUint64} {
		noReport(t, "too many values", row(1, 2, 3, 4, 5, 6, 7, 8, 9)+"\x00\x00\x00\x00\x00"+wire.Number(many), api.ErrMore)
	}
	s, e := master.EncodeCommand(reports(api.Report{Values: values(api.MaxVertices + 1)}))
	if e != api.OK {
		t.Errorf("error %d", e)
	}
	notCommand(t, "a value too many", s, api.ErrMore)
	s, e = master.EncodeCommand(submit(1, most+1, "a"))
	if s != laidCommand(submit(1, most+1, "a")) || e != api.OK {
		t.Errorf("%q, error %d", s, e)
	}
	for _, many := range []uint64{api.MaxParts + 1, 1 << 31, 1<<32 + 1, math.MaxUint64} {
		noTask(t, "too many partitions", row(1, 2, 3, 4, 5, 6, 7)+wire.Number(many), api.ErrMore)
		noTask(t, "too many workers of them", row(1, 2, 3, 4, 5, 6, 7, 0)+wire.Number(many), api.ErrMore)
	}
	x := someTasks()[1]
	x.Parts = make([]int, api.MaxParts+1)
	w := wire.NewWriter()
	master.PutTask(w, x)
	noTask(t, "a partition too many", w.All(), api.ErrMore)
}

// noReport tells whether no report is taken off bytes, with that error, alone and behind others.
func noReport(t *testing.T, what, s string, e api.Errno) {
	t.Helper()
	for _, ahead := range []string{"", "\x02ab"} {
		r := wire.NewReader(ahead + s)
		if ahead != "" {
			r.Text()
		}
		if x := master.TakeReport(r); r.Err() != e || !sameReport(x, api.Report{}) {
			t.Errorf("%s, %.80q: %v with error %d, not %d", what, s, x, r.Err(), e)
		}
	}
}

// noTask tells whether no task is taken off bytes, with that error, alone and behind others.
func noTask(t *testing.T, what, s string, e api.Errno) {
	t.Helper()
	for _, ahead := range []string{"", "\x02ab"} {
		r := wire.NewReader(ahead + s)
		if ahead != "" {
			r.Text()
		}
		if x := master.TakeTask(r); r.Err() != e || !sameTask(x, api.Task{}) {
			t.Errorf("%s, %.80q: %v with error %d, not %d", what, s, x, r.Err(), e)
		}
	}
}

// Promise 17.3: reports between other bytes, which are left; what is handed in is as it was.
func TestReports(t *testing.T) {
	w, want := wire.NewWriter(), ""
	for _, x := range someReports() {
		kept := slices.Clone(x.Values)
		w.Text("ab")
		master.PutReport(w, x)
		w.Signed(-7)
		want += "\x02ab" + laidReport(x) + signed(-7)
		if !slices.Equal(x.Values, kept) {
			t.Errorf("the values became %v", x.Values)
		}
	}
	if w.All() != want {
		t.Fatalf("%q, not %q", w.All(), want)
	}
	r := wire.NewReader(w.All())
	for _, x := range someReports() {
		r.Text()
		if got := master.TakeReport(r); !sameReport(got, x) || r.Err() != api.OK {
			t.Errorf("%v, not %v, error %d", got, x, r.Err())
		}
		if n := r.Signed(); n != -7 {
			t.Errorf("behind it: %d", n)
		}
	}
	if e := r.End(); e != api.OK {
		t.Errorf("error %d", e)
	}
	for _, x := range someReports() {
		s := laidReport(x)
		for n := range len(s) {
			if n < 200 || n > len(s)-200 {
				noReport(t, "cut", s[:n], api.ErrCut)
			}
		}
		r := wire.NewReader(s)
		r.Fail(api.ErrOld)
		if got := master.TakeReport(r); !sameReport(got, api.Report{}) || r.Err() != api.ErrOld || r.At() != 0 {
			t.Errorf("behind an error: %v, error %d", got, r.Err())
		}
		master.PutReport(nil, x)
	}
	if got := master.TakeReport(nil); !sameReport(got, api.Report{}) {
		t.Errorf("off no reader: %v", got)
	}
}

// Promise 17.3: the bytes of a task, one by one.
func TestTaskBytes(t *testing.T) {
	w := wire.NewWriter()
	x := someTasks()[1]
	x.Spec = api.Job{Program: "cc", Steps: 1, Sent: 300, Parts: 2}
	master.PutTask(w, x)
	if want := "\x01\x02\x03\x04\x0a\x0b\x0c\x02\x05\x06\x03\x07\x08\x09\x01\x00\x01\x05\x00\x00\x00\x02cc\x00\x00\x01\xac\x02\x02"; w.All() != want {
		t.Errorf("%q, not %q", w.All(), want)
	}
}

// Promise 17.3: tasks between other bytes, which are left; what is handed in is as it was.
func TestTasks(t *testing.T) {
	w, want := wire.NewWriter(), ""
	for i, x := range someTasks() {
		w.Text("ab")
		master.PutTask(w, x)
		w.Signed(-7)
		want += "\x02ab" + laidTask(x) + signed(-7)
		if !sameTask(x, someTasks()[i]) {
			t.Errorf("it became %v", x)
		}
	}
	if w.All() != want {
		t.Fatalf("%q, not %q", w.All(), want)
	}
	r := wire.NewReader(w.All())
	for _, x := range someTasks() {
		r.Text()
		if got := master.TakeTask(r); !sameTask(got, x) || r.Err() != api.OK {
			t.Errorf("%v, not %v, error %d", got, x, r.Err())
		}
		if n := r.Signed(); n != -7 {
			t.Errorf("behind it: %d", n)
		}
	}
	if e := r.End(); e != api.OK {
		t.Errorf("error %d", e)
	}
}

// Promise 17.3: bytes that are no task: cut, of another form, or with a job that may not be.
func TestNoTasks(t *testing.T) {
	for _, x := range someTasks() {
		s := laidTask(x)
		for n := range len(s) {
			noTask(t, "cut", s[:n], api.ErrCut)
		}
		r := wire.NewReader(s)
		r.Fail(api.ErrOld)
		if got := master.TakeTask(r); !sameTask(got, api.Task{}) || r.Err() != api.ErrOld || r.At() != 0 {
			t.Errorf("behind an error: %v, error %d", got, r.Err())
		}
		master.PutTask(nil, x)
	}
	ahead := row(1, 2, 3, 4, 5, 6, 7, 1, 0, 1, 0)
	for i := range len(ahead) {
		noTask(t, "a longer form", ahead[:i]+string([]byte{ahead[i] | 128, 0})+ahead[i+1:], api.ErrForm)
	}
	none := "\x00\x00\x00\x00\x00"
	noTask(t, "neither yes nor no", ahead+"\x02"+none+text(spec(9, 9, 1)), api.ErrForm)
	noTask(t, "a job that may not be", ahead+"\x01"+none+"\x04none\x00\x00\x01\x00\x01", api.ErrProgram)
	noTask(t, "a job without supersteps", ahead+"\x01"+none+"\x02cc\x00\x00\x00\x00\x01", api.ErrLimit)
	w := wire.NewWriter()
	master.PutTask(w, api.Task{})
	noTask(t, "an empty one", w.All(), api.ErrProgram)
	if got := master.TakeTask(nil); !sameTask(got, api.Task{}) {
		t.Errorf("off no reader: %v", got)
	}
}

// Promise 17.3: any bytes are the bytes of the command that they tell, or none.
func TestDecodeCommandAny(t *testing.T) {
	told := 0
	for _, c := range someCommands() {
		s := laidCommand(c)
		if len(s) > 200 {
			continue
		}
		for i := range len(s) {
			for _, b := range []byte{0, 1, 2, 3, 4, 5, 6, 127, 128, 255, s[i] + 1, s[i] - 1} {
				other := s[:i] + string([]byte{b}) + s[i+1:]
				got, e := master.DecodeCommand(other)
				if e != api.OK {
					notCommand(t, "a byte changed", other, e)
					continue
				}
				told++
				if again, f := master.EncodeCommand(got); again != other || f != api.OK {
					t.Errorf("%q is told as %v, which is %q, error %d", other, got, again, f)
				}
			}
		}
	}
	if told < 100 {
		t.Errorf("only %d were commands", told)
	}
}

// Promise 17.3, R2: what is told is the caller's own.
func TestDecodedApart(t *testing.T) {
	s := laidCommand(reports(someReports()[2]))
	a, _ := master.DecodeCommand(s)
	b, _ := master.DecodeCommand(s)
	a.Report.Values[0] = api.Value{ID: 77}
	if !sameReport(b.Report, someReports()[2]) {
		t.Errorf("once another was changed: %v", b)
	}
	s = laidTask(someTasks()[1])
	x, y := master.TakeTask(wire.NewReader(s)), master.TakeTask(wire.NewReader(s))
	spoil(x.Spec)
	x.Parts[0], x.Assigned[0] = 77, 77
	if !sameTask(y, someTasks()[1]) {
		t.Errorf("once another was changed: %v", y)
	}
}
