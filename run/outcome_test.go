package run_test

import (
	"math"
	"slices"
	"testing"

	"cohort/api"
	"cohort/run"
	"cohort/wire"
)

// values is so many values, some of them below 0.
func values(many int) []api.Value {
	var l []api.Value
	for i := range many {
		l = append(l, api.Value{ID: int64(i*i - 100), V: int64(70 - 3*i)})
	}
	return l
}

// outcomes is outcomes that may be told, of each kind.
func outcomes() []api.Outcome {
	return []api.Outcome{{}, {Kind: api.Done}, {Kind: api.Done, Steps: 2, Values: []api.Value{{ID: 1, V: 1}, {ID: 2, V: 1}}},
		{Kind: api.Done, Steps: api.MaxSteps, Values: []api.Value{{ID: least, V: greatest}, {ID: greatest, V: least}}},
		{Kind: api.Done, Steps: 300, Values: values(api.MaxVertices)}, {Kind: api.Done, Values: values(api.MaxVertices - 1)},
		failed(api.ErrSteps, 1), failed(api.ErrQuota, 0), failed(api.ErrOverflow, 999), failed(1000, api.MaxSteps), failed(999, 128), failed(128, 127),
		// Whatever goes together: bytes tell what they are.
		{Kind: api.Done, Err: 3, Steps: 4, Values: []api.Value{{ID: 2, V: 1}, {ID: 1, V: 1}, {ID: 1, V: 2}}}, {Err: 5, Values: values(3)}, {Kind: api.Failed, Values: values(1)}}
}

func notTold(t *testing.T, what, s string, want api.Errno) {
	t.Helper()
	if o, e := run.Decode(s); e != want || !equal(o, api.Outcome{}) {
		t.Errorf("%s, %.80q: %v with error %d, not %d", what, s, o, e, want)
	}
}

// Promise 9.1: the bytes, one by one.
func TestEncode(t *testing.T) {
	for _, x := range []struct {
		o    api.Outcome
		want string
	}{
		{api.Outcome{}, "\x00\x00\x00\x00"},
		{api.Outcome{Values: []api.Value{}}, "\x00\x00\x00\x00"},
		{api.Outcome{Kind: api.Done, Steps: 2, Values: []api.Value{{ID: 1, V: -1}, {ID: -2, V: 150}}}, "\x01\x00\x02\x02\x02\x01\x03\xac\x02"},
		{failed(api.ErrSteps, 300), "\x02\x5b\xac\x02\x00"},
		{failed(1000, 1000), "\x02\xe8\x07\xe8\x07\x00"},
		{api.Outcome{Kind: -1, Err: -1, Steps: -1}, "\x00\x00\x00\x00"},
		{api.Outcome{Kind: 3, Err: 1001, Steps: 1001}, "\x03\xe9\x07\xe9\x07\x00"},
	} {
		if s := run.Encode(x.o); s != x.want {
			t.Errorf("%v is %q, not %q", x.o, s, x.want)
		}
	}
}

// Promise 9.1: there and back; what is handed in is as it was, and what is told is the caller's own.
func TestOutcomeThereAndBack(t *testing.T) {
	for _, o := range outcomes() {
		kept := slices.Clone(o.Values)
		s := run.Encode(o)
		first, e := run.Decode(s)
		second, f := run.Decode(s)
		if e != api.OK || f != api.OK || !equal(first, o) || !run.Same(first, o) || !slices.Equal(o.Values, kept) {
			t.Errorf("%v became %v, errors %d, %d", o, first, e, f)
		}
		for i := range first.Values {
			first.Values[i] = api.Value{ID: -99, V: -99}
		}
		if !equal(second, o) || run.Encode(second) != s {
			t.Errorf("once an answer was changed: %v, not %v", second, o)
		}
	}
	for _, x := range knowns() {
		o, _ := run.Run(x.j)
		if got, e := run.Decode(run.Encode(o)); e != api.OK || !equal(got, o) {
			t.Errorf("%s: %v became %v, error %d", x.j.Program, o, got, e)
		}
	}
}

// Promise 9.1: each number above the most, at once, whatever comes behind it.
func TestDecodeAbove(t *testing.T) {
	for _, x := range []struct {
		name, ahead string
		most        uint64
		behind      string
	}{
		{"Kind", "", 2, "\x00\x00\x00"},
		{"Err", "\x02", 1000, "\x00\x00"},
		{"Steps", "\x02\x5b", api.MaxSteps, "\x00"},
		{"values", "\x01\x00\x01", api.MaxVertices, ""},
	} {
		for _, n := range []uint64{x.most + 1, x.most + 2, x.most * 2, 1 << 31, 1<<32 + 1, 1 << 63, math.MaxUint64} {
			notTold(t, x.name, x.ahead+wire.Number(n)+x.behind, api.ErrMore)
			notTold(t, x.name+", and nothing behind it", x.ahead+wire.Number(n), api.ErrMore)
		}
		notTold(t, x.name+", the most, and cut", x.ahead+wire.Number(x.most), api.ErrCut)
	}
	notTold(t, "a value too many", run.Encode(api.Outcome{Kind: api.Done, Values: values(api.MaxVertices + 1)}), api.ErrMore)
}

// Promise 9.1: cut at any place, something behind it, and numbers in a longer form.
func TestDecodeForm(t *testing.T) {
	for _, o := range outcomes() {
		s := run.Encode(o)
		for n := range len(s) {
			notTold(t, "cut", s[:n], api.ErrCut)
		}
		for _, behind := range []string{"\x00", "\xff", "more", s} {
			notTold(t, "something behind it", s+behind, api.ErrMore)
		}
	}
	s := "\x01\x05\x02\x02\x02\x01\x03\x04"
	for i := range len(s) {
		notTold(t, "a longer form", s[:i]+string([]byte{s[i] | 128, 0})+s[i+1:], api.ErrForm)
		notTold(t, "no number", s[:i]+"\xff\xff\xff\xff\xff\xff\xff\xff\xff\x02"+s[i+1:], api.ErrForm)
	}
}

// Promise 9.1: any bytes are the bytes of the outcome that they tell, or none.
func TestDecodeAny(t *testing.T) {
	bytes := []byte{0, 1, 2, 3, 128}
	told := 0
	var grow func(s []byte)
	grow = func(s []byte) {
		o, e := run.Decode(string(s))
		switch {
		case e == api.OK && run.Encode(o) != string(s):
			t.Fatalf("%q is told as %v, which is %q", s, o, run.Encode(o))
		case e == api.OK:
			told++
		case !equal(o, api.Outcome{}):
			t.Fatalf("%q: %v with error %d", s, o, e)
		}
		if len(s) < 7 {
			for _, b := range bytes {
				grow(append(slices.Clone(s), b))
			}
		}
	}
	grow(nil)
	if told == 0 {
		t.Error("no outcome was told")
	}
}
