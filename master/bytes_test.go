package master_test

import (
	"fmt"
	"math"
	"math/rand"
	"testing"

	"cohort/api"
	"cohort/master"
)

// refused tells whether bytes are no master, with that error.
func refused(t *testing.T, what, s string, e api.Errno) {
	t.Helper()
	if m, f := master.Decode(s); m != nil || f != e {
		t.Errorf("%s, %.120q: %v with error %d, not %d", what, s, m != nil, f, e)
	}
}

// standings is masters at all kinds of places.
func standings(t *testing.T) map[string]*master.Master {
	t.Helper()
	l := map[string]*master.Master{"new": master.New(), "waiting": made(t, spec(9, 9, 2))}
	l["workers"] = master.New()
	does(t, l["workers"], join(5, 1), join(63, -3), join(0, math.MaxInt), join(7, math.MinInt))
	for p := api.PhaseLoad; p <= api.PhaseCollect; p++ {
		m := made(t, spec(9, 9, 3), 0, 1, 5)
		more(t, m, spec(9, 9, 1))
		enterPhase(t, m, p)
		says(t, m, 1, api.Report{Active: 3, Many: 4, Sent: 5, Agg: full(), Values: values(2)})
		l[fmt.Sprint("phase ", p)] = m
	}
	m := made(t, spec(20, 9, 2), 3)
	goes(t, m, 5, api.PhaseCompute)
	says(t, m, 3, api.Report{Agg: gives(api.AggSum, 5)})
	l["behind a checkpoint"] = again(t, "behind a checkpoint", m)
	does(t, m, lose(3, 1))
	l["without partitions"] = m
	m = made(t, spec(9, 9, 1), 0)
	for range 4 {
		more(t, m, spec(9, 9, 1))
	}
	says(t, m, 0, api.Report{})
	says(t, m, 0, api.Report{Values: values(3)})
	says(t, m, 0, api.Report{Err: 1})
	asks(t, "one goes", m, cancel(-4, 1, 4), api.Reply{ID: 4}, api.OK)
	asks(t, "no job", m, submit(greatest, 1, "no"), api.Reply{Err: api.ErrCut}, api.OK)
	l["all states"] = m
	return l
}

// Promise 17.3: there and back, at all kinds of places; both then do the same, and go on apart.
func TestThereAndBack(t *testing.T) {
	for what, m := range standings(t) {
		s := m.Encode()
		k, j := again(t, what, m), again(t, what, m)
		for i, c := range []api.Command{join(9, 1), submit(3, 1, text(spec(9, 9, 2))), lose(0, 1), lose(1, 1), join(1, 2), cancel(3, 2, 1), join(9, 2)} {
			a, e := k.Apply(c)
			if b, f := j.Apply(c); a != b || e != f {
				t.Errorf("%s, command %d: %v, error %d, and %v, error %d", what, i, a, e, b, f)
			}
			if m.Encode() != s {
				t.Fatalf("%s, command %d: the one that was encoded is another one", what, i)
			}
			b, f := m.Apply(c)
			if a != b || e != f || m.Encode() != k.Encode() || j.Encode() != k.Encode() {
				t.Fatalf("%s, command %d: %v, error %d, and %v, error %d, or other bytes", what, i, a, e, b, f)
			}
			s = m.Encode()
			for w := range 10 {
				x, ok := m.Task(w)
				if y, is := k.Task(w); ok != is || !sameTask(x, y) {
					t.Errorf("%s, command %d: worker %d is to do %v, and %v", what, i, w, x, y)
				}
			}
		}
	}
}

// Promise 17.3: what no bytes of a command can tell is there again, too: other lives, other numbers, more values than there may be.
func TestThereAndBackBeyond(t *testing.T) {
	m := master.New()
	does(t, m, join(0, math.MinInt), join(1, math.MaxInt), join(2, -1))
	asks(t, "a job", m, submit(least, 1, text(spec(9, 9, 3))), api.Reply{ID: 1}, api.OK)
	odd := api.Report{Err: -7, Sent: -1, Active: math.MaxInt, Many: math.MinInt}
	odd.Agg.V[api.AggMin] = 5
	says(t, m, 0, odd)
	k := again(t, "an odd report", m)
	for _, w := range []int{1, 2} {
		says(t, m, w, api.Report{})
		says(t, k, w, api.Report{})
	}
	stands(t, "odd", m, failed(1, api.ErrOverflow, 0))
	stands(t, "odd, again", k, failed(1, api.ErrOverflow, 0))
	asks(t, "a job", m, submit(least, 2, text(spec(9, 9, 3))), api.Reply{ID: 2}, api.OK)
	for w := range 3 {
		says(t, m, w, api.Report{})
	}
	n := 0
	for w := range 3 {
		says(t, m, w, api.Report{Values: values(1000)})
		n += 1000
		k = again(t, "more values than there may be", m)
	}
	s, e := k.Status(2)
	if e != api.OK || s.Outcome.Kind != api.Done || len(s.Outcome.Values) != n {
		t.Errorf("%d values, error %d", len(s.Outcome.Values), e)
	}
	lives(t, "the greatest", k, 1, math.MaxInt)
	lives(t, "the least", k, 0, math.MinInt)
}

// Promise 17.3: bytes that are cut, with something behind them, or of another form, are no master.
func TestNoMaster(t *testing.T) {
	refused(t, "nothing", "", api.ErrCut)
	for what, m := range standings(t) {
		s := m.Encode()
		for n := range len(s) {
			refused(t, what+", cut", s[:n], api.ErrCut)
		}
		for _, behind := range []string{"\x00", "\xff", "more", s} {
			refused(t, what+", something behind it", s+behind, api.ErrMore)
		}
	}
	refused(t, "no number", "\x80\x00", api.ErrForm)
	refused(t, "too many sessions", number(api.MaxSessions+1), api.ErrMore)
	refused(t, "too many workers", "\x00"+number(api.MaxWorkers+1), api.ErrMore)
	refused(t, "no worker", "\x00\x01"+number(api.MaxWorkers)+"\x02\x00\x00", api.ErrMore)
	refused(t, "workers that fall", "\x00\x02\x05\x02\x04\x02\x00\x00", api.ErrForm)
	refused(t, "a worker twice", "\x00\x02\x05\x02\x05\x02\x00\x00", api.ErrForm)
	refused(t, "too many jobs", "\x00\x00\x00"+number(api.MaxJobs+1), api.ErrMore)
	for _, n := range []int{0, 5, 6, 100} {
		e := api.ErrMore
		if n == 0 {
			e = api.ErrForm
		}
		refused(t, "no state", "\x00\x00\x00\x01"+number(n)+text(spec(9, 9, 1)), e)
	}
	refused(t, "a job that may not be", "\x00\x00\x00\x01\x01\x04none\x00\x00\x01\x00\x01", api.ErrProgram)
	if _, e := master.Decode("\x00\x00\x00\x01\x01" + text(spec(9, 9, 1))); e != api.OK {
		t.Errorf("a job that waits: error %d", e)
	}
	refused(t, "a job that waits, with a worker there", "\x00\x01\x05\x02\x00\x01\x01"+text(spec(9, 9, 1)), api.ErrForm)
	nine := "\x00\x00\x00\x09"
	for range 9 {
		nine += "\x01" + text(spec(9, 9, 1))
	}
	refused(t, "more that wait than may", nine, api.ErrForm)
}

// Promise 17.3: bytes that are changed are none, or those of the master that they tell, which goes on as others do.
func TestDecodeAny(t *testing.T) {
	chance := rand.New(rand.NewSource(17))
	told := 0
	for _, m := range standings(t) {
		s := m.Encode()
		for i := range len(s) {
			for _, b := range []byte{0, 1, 2, 3, 4, 5, 8, 63, 64, 127, 128, 255, s[i] + 1, s[i] - 1} {
				other := s[:i] + string([]byte{b}) + s[i+1:]
				k, e := master.Decode(other)
				if (k == nil) != (e != api.OK) {
					t.Fatalf("%q: %v with error %d", other, k != nil, e)
				}
				if k == nil {
					continue
				}
				told++
				if k.Encode() != other {
					t.Fatalf("%q is told as %q", other, k.Encode())
				}
				if chance.Intn(10) == 0 {
					roam(t, chance, k)
				}
			}
		}
	}
	if told < 1000 {
		t.Errorf("only %d were masters", told)
	}
}

// roam does commands at a master, which goes through bytes meanwhile, and lets nobody wait for ever.
func roam(t *testing.T, chance *rand.Rand, m *master.Master) {
	t.Helper()
	for i := range 40 {
		w := chance.Intn(3)
		switch chance.Intn(8) {
		case 0:
			m.Apply(submit(77, i+1, text(spec(5, 5, 2))))
		case 1:
			m.Apply(cancel(78, i+1, chance.Intn(4)))
		case 2:
			m.Apply(join(w, i))
		case 3:
			if life, ok := m.Life(w); ok {
				m.Apply(lose(w, life))
			}
		default:
			if x, ok := m.Task(w); ok {
				r := answer(x, w)
				r.Active, r.Values = chance.Intn(2), values(chance.Intn(3))
				m.Apply(reports(r))
			}
		}
		m = again(t, "on its way", m)
	}
	for turn := 0; m.Open() > 0; turn++ {
		if turn == 10000 {
			t.Fatalf("%q: %d jobs never end", m.Encode(), m.Open())
		}
		if len(m.Workers()) == 0 {
			m.Apply(join(0, 0))
		}
		for _, w := range m.Workers() {
			if x, ok := m.Task(w); ok {
				m.Apply(reports(answer(x, w)))
			}
		}
	}
}

// Promise 17.3: bytes made by chance.
func TestDecodeChance(t *testing.T) {
	chance := rand.New(rand.NewSource(3))
	told := 0
	for range 100000 {
		b := make([]byte, chance.Intn(12))
		for i := range b {
			b[i] = byte(chance.Intn(4))
		}
		m, e := master.Decode(string(b))
		if (m == nil) != (e != api.OK) {
			t.Fatalf("%q: %v with error %d", b, m != nil, e)
		}
		if m != nil {
			told++
			if m.Encode() != string(b) {
				t.Fatalf("%q is told as %q", b, m.Encode())
			}
		}
	}
	if told < 100 {
		t.Errorf("only %d were masters", told)
	}
}
