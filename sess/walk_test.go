package sess_test

import (
	"fmt"
	"math/rand"
	"slices"
	"testing"

	"cohort/api"
	"cohort/sess"
	"cohort/wire"
)

// model is the same by another way: of each session all that it was ever told, in order.
type model map[int64][]string

func (m model) look(session int64, seq int) answer {
	l, there := m[session]
	switch {
	case seq < 1:
		return answer{e: api.ErrArg}
	case there && seq == len(l):
		return answer{l[seq-1], true, api.OK}
	case seq <= len(l):
		return answer{e: api.ErrOld}
	case seq > len(l)+1:
		return answer{e: api.ErrGap}
	case !there && len(m) == api.MaxSessions:
		return answer{e: api.ErrMany}
	}
	return answer{}
}

// do tells what is told, and how often it is done.
func (m model) do(session int64, seq int, s string) (answer, int) {
	a := m.look(session, seq)
	if a != (answer{}) {
		a.ok = false
		return a, 0
	}
	m[session] = append(m[session], s)
	return answer{s, true, api.OK}, 1
}

func (m model) all() []last {
	var l []last
	for session, told := range m {
		l = append(l, last{session, len(told), told[len(told)-1]})
	}
	slices.SortFunc(l, func(a, b last) int {
		if a.session < b.session {
			return -1
		}
		return 1
	})
	return l
}

// Promises 15.1, 15.2: long walks beside the model, by few sessions and by more than there may be, through bytes now and then.
func TestWalks(t *testing.T) {
	for seed := range int64(60) {
		chance := rand.New(rand.NewSource(seed))
		many := int64(1 + chance.Intn(5))
		if seed%2 == 1 {
			many = api.MaxSessions + 10
		}
		x, m := sess.New(), model{}
		for i := range 1500 {
			session := chance.Int63n(many) - many/2
			seq := len(m[session]) + chance.Intn(4) - 1
			want(t, "Look", look(x, session, seq), m.look(session, seq))
			n, s := 0, fmt.Sprint(i)[:chance.Intn(len(fmt.Sprint(i))+1)]
			a, times := m.do(session, seq, s)
			want(t, "Do", do(x, session, seq, saying(s, &n)), a)
			if n != times {
				t.Fatalf("seed %d: done %d times, not %d", seed, n, times)
			}
			if got := x.Seq(session); got != len(m[session]) {
				t.Fatalf("seed %d: the last one is %d, not %d", seed, got, len(m[session]))
			}
			if i%100 == 0 {
				holds(t, fmt.Sprint("seed ", seed), x, m.all()...)
				x = sess.Take(wire.NewReader(put(x)))
			}
			if x.Len() != len(m) {
				t.Fatalf("seed %d: %d sessions, not %d", seed, x.Len(), len(m))
			}
		}
	}
}

// Promise 15.1: all short ways in which two sessions may ask.
func TestShortWalks(t *testing.T) {
	const long = 5
	for way := range 8 * 8 * 8 * 8 * 8 {
		x, m := sess.New(), model{}
		for range long {
			session, seq := int64(way%2), way/2%4
			way /= 8
			n := 0
			a, times := m.do(session, seq, fmt.Sprint(way))
			if got := do(x, session, seq, saying(fmt.Sprint(way), &n)); got != a || n != times {
				t.Fatalf("%v, done %d times, not %v, %d times", got, n, a, times)
			}
		}
		if put(x) != laid(m.all()...) {
			t.Fatalf("%q, not %q", put(x), laid(m.all()...))
		}
	}
}

// Promise 15.2: bytes made by chance are a table or none; what is taken is put again as the same bytes.
func TestTakeAnything(t *testing.T) {
	chance := rand.New(rand.NewSource(15))
	taken := 0
	for range 200000 {
		b := make([]byte, chance.Intn(14))
		for i := range b {
			b[i] = byte(chance.Intn(5))
		}
		r := wire.NewReader(string(b))
		x := sess.Take(r)
		if (x == nil) != (r.Err() != api.OK) {
			t.Fatalf("%q: %v with error %d", b, x, r.Err())
		}
		if x == nil {
			continue
		}
		taken++
		if put(x) != string(b[:r.At()]) {
			t.Fatalf("%q is put again as %q", b[:r.At()], put(x))
		}
	}
	if taken < 1000 {
		t.Errorf("only %d were tables", taken)
	}
}
