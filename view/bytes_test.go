package view_test

import (
	"fmt"
	"math"
	"reflect"
	"strings"
	"testing"

	"cohort/api"
	"cohort/view"
	"cohort/wire"
)

// fields is where the numbers of a message stand, in the order of its bytes.
func fields(m *api.ViewMsg) []*int {
	return []*int{&m.Kind, &m.From, &m.To, &m.View, &m.Normal, &m.Index, &m.Commit, &m.BaseIndex, &m.BaseView}
}

// checks is that Check tells something.
func checks(t *testing.T, m api.ViewMsg, all int, should bool) {
	t.Helper()
	if view.Check(m, all) != should {
		t.Errorf("Check among %d tells %t of%s", all, !should, show(msgs(m)))
	}
}

// Promise 13.2: Check of kinds and masters.
func TestCheckWho(t *testing.T) {
	odd := []int{math.MinInt, -most, -1, 0, 1, 2, 3, 4, 5, 6, 7, 8, 9, most, math.MaxInt}
	for all := -1; all <= 7; all++ {
		for _, x := range odd {
			for _, y := range odd {
				checks(t, bare(1, x, y, 0), all, x >= 0 && x < all && y >= 0 && y < all && x != y)
			}
		}
	}
	for _, kind := range odd {
		checks(t, bare(kind, 0, 1, 0), 2, kind >= 1 && kind <= 6)
	}
	checks(t, bare(1, 0, 1, 0), math.MinInt, false)
}

// Promise 13.2: Check of numbers, and of Normal beside View.
func TestCheckNumbers(t *testing.T) {
	for kind := 1; kind <= 6; kind++ {
		for at := 3; at < 9; at++ {
			for _, x := range []int{math.MinInt, -most - 1, -1, 0, 1, most - 1, most, most + 1, math.MaxInt} {
				m := bare(kind, 2, 0, most)
				*fields(&m)[at] = x
				checks(t, m, 3, x >= 0 && x <= most)
			}
		}
		for _, of := range []int{0, 1, 5, most} {
			for _, normal := range []int{of - 1, of, of + 1} {
				m := bare(kind, 2, 0, of)
				m.Normal = normal
				checks(t, m, 3, normal >= 0 && normal <= of)
			}
		}
	}
}

// Promise 13.2: Check of how many entries there are, and not of what they say.
func TestCheckEntries(t *testing.T) {
	for kind := 1; kind <= 6; kind++ {
		for _, n := range []int{0, 1, 15, 16, 17, 18, 999, 1000, 1001, 2000} {
			m := bare(kind, 2, 0, 1)
			m.Entries = many(1, n)
			checks(t, m, 3, n <= 16 || n <= 1000 && kind != api.ViewPrepare)
		}
		m := bare(kind, 2, 0, 1)
		m.Entries = []api.LogEntry{{View: -1}, {View: most + 1, S: "x"}}
		m.Base = strings.Repeat("x", 100000)
		checks(t, m, 3, true)
	}
}

// bytesOf is the bytes of a message as the chapter has them.
func bytesOf(m api.ViewMsg) string {
	var b strings.Builder
	for _, x := range fields(&m) {
		b.WriteString(wire.Number(uint64(*x)))
	}
	b.WriteString(wire.Number(uint64(len(m.Base))) + m.Base + wire.Number(uint64(len(m.Entries))))
	for _, e := range m.Entries {
		b.WriteString(wire.Number(uint64(e.View)) + wire.Number(uint64(len(e.S))) + e.S)
	}
	return b.String()
}

// put is the bytes that Put puts.
func put(m api.ViewMsg) string {
	w := wire.NewWriter()
	view.Put(w, m)
	return w.All()
}

// samples is messages of all sorts, each number of which is another one.
func samples() []api.ViewMsg {
	l := []api.ViewMsg{{}, {Kind: 1, From: 2, To: 3, View: 400, Normal: 5, Index: 60000, Commit: 7, BaseIndex: 8, BaseView: 999, Base: "base", Entries: log("1a", "2", "3ccc")}}
	for at := range 9 {
		for _, x := range []int{1, 127, 128, 300, most} {
			m := api.ViewMsg{Base: "x", Entries: []api.LogEntry{{View: most, S: ""}, {View: 0, S: "\x00\xff"}}}
			*fields(&m)[at] = x
			l = append(l, m)
		}
	}
	l = append(l, api.ViewMsg{Base: strings.Repeat("b", 1000)}, api.ViewMsg{Kind: 4, Entries: many(1, 1000)}, api.ViewMsg{Kind: 4, Entries: many(1, 999)}, api.ViewMsg{Entries: []api.LogEntry{{}}})
	return l
}

// Promise 13.2: Put and Take, there and back, in the form of the chapter, amid other bytes.
func TestPutTake(t *testing.T) {
	for i, m := range samples() {
		w := wire.NewWriter()
		w.Bytes("ahead")
		view.Put(w, m)
		if w.All() != "ahead"+bytesOf(m) {
			t.Fatalf("message %d is %q", i, w.All())
		}
		r := wire.NewReader(w.All() + "behind")
		r.Bytes(5)
		got := view.Take(r)
		if r.Err() != api.OK || !sameMsgs(msgs(got), msgs(m)) || r.Left() != 6 {
			t.Fatalf("message %d: error %d, %d bytes left,%s", i, r.Err(), r.Left(), show(msgs(got)))
		}
	}
}

// takesNot is that bytes are no message.
func takesNot(t *testing.T, what, s string, e api.Errno) {
	t.Helper()
	r := wire.NewReader(s)
	if m := view.Take(r); r.Err() != e || !reflect.DeepEqual(m, api.ViewMsg{}) {
		t.Fatalf("%s: error %d, and not %d,%s", what, r.Err(), e, show(msgs(m)))
	}
}

// Promise 13.2: bytes that are cut off at each place.
func TestTakeCut(t *testing.T) {
	for i, m := range samples() {
		s := bytesOf(m)
		for at := range min(len(s), 3000) {
			takesNot(t, fmt.Sprintf("message %d up to %d", i, at), s[:at], api.ErrCut)
		}
	}
}

// Promise 13.2: numbers above 2^31 - 1, too many entries, numbers of another form, texts that are longer than the bytes.
func TestTakeWrong(t *testing.T) {
	m := samples()[1]
	for at := range 9 {
		for _, x := range []int{most + 1, most + 2, 1 << 40, math.MaxInt, -1} { // -1 is the greatest number there is
			m := m
			*fields(&m)[at] = x
			takesNot(t, fmt.Sprintf("number %d is %d", at, x), bytesOf(m), api.ErrMore)
		}
		s := ""
		for _, x := range fields(&m)[:at] {
			s += wire.Number(uint64(*x))
		}
		takesNot(t, fmt.Sprintf("number %d is of another form", at), s+"\x80\x00"+strings.Repeat("\x00", 20), api.ErrForm)
	}
	for at := range 3 {
		m := samples()[1]
		m.Entries[at].View = most + 1
		takesNot(t, fmt.Sprintf("the view of entry %d", at), bytesOf(m), api.ErrMore)
	}
	for _, n := range []int{1001, 1002, 5000} {
		takesNot(t, fmt.Sprintf("%d entries", n), bytesOf(api.ViewMsg{Entries: many(1, n)}), api.ErrMore)
	}
	takesNot(t, "entries without end", strings.Repeat("\x00", 10)+wire.Number(math.MaxUint64), api.ErrMore)
	takesNot(t, "a snapshot without end", strings.Repeat("\x00", 9)+wire.Number(math.MaxUint64)+"xx", api.ErrCut)
	takesNot(t, "a text without end", strings.Repeat("\x00", 10)+"\x01\x00"+wire.Number(1<<62)+"xx", api.ErrCut)
}

// Promise 13.2: what was the reader's error stays, and nothing is taken; a nil reader, a nil writer.
func TestTakeBehindError(t *testing.T) {
	s := bytesOf(samples()[1])
	r := wire.NewReader(s)
	r.Fail(api.ErrName)
	if m := view.Take(r); r.Err() != api.ErrName || !reflect.DeepEqual(m, api.ViewMsg{}) || r.At() != 0 {
		t.Errorf("Take: error %d", r.Err())
	}
	if e := view.TakeEntry(r); r.Err() != api.ErrName || e != (api.LogEntry{}) || r.At() != 0 {
		t.Errorf("TakeEntry: error %d", r.Err())
	}
	if m := view.Take(nil); !reflect.DeepEqual(m, api.ViewMsg{}) {
		t.Error("a nil reader")
	}
	if e := view.TakeEntry(nil); e != (api.LogEntry{}) {
		t.Error("a nil reader")
	}
	view.Put(nil, samples()[1])
	view.PutEntry(nil, api.LogEntry{View: 1, S: "x"})
}

// Promise 13.2: numbers below 0 have no bytes of their own, and more than may be are put as they are.
func TestPutOdd(t *testing.T) {
	for at := range 9 {
		m := samples()[1]
		*fields(&m)[at] = -7
		should := samples()[1]
		*fields(&should)[at] = 0
		if put(m) != bytesOf(should) {
			t.Errorf("number %d below 0", at)
		}
		*fields(&m)[at] = most + 1
		*fields(&should)[at] = most + 1
		if put(m) != bytesOf(should) {
			t.Errorf("number %d above", at)
		}
	}
	if m := (api.ViewMsg{Entries: many(1, 1001)}); put(m) != bytesOf(m) {
		t.Error("too many entries")
	}
}

// Promise 13.2: PutEntry and TakeEntry.
func TestEntryBytes(t *testing.T) {
	for _, e := range []api.LogEntry{{}, {View: 1}, {S: "x"}, {View: 300, S: "text"}, {View: most, S: strings.Repeat("long", 100)}, {View: 127, S: "\xff\x00"}} {
		w := wire.NewWriter()
		view.PutEntry(w, e)
		s := wire.Number(uint64(e.View)) + wire.Number(uint64(len(e.S))) + e.S
		if w.All() != s {
			t.Fatalf("%v is %q", e, w.All())
		}
		r := wire.NewReader(s + "behind")
		if got := view.TakeEntry(r); got != e || r.Err() != api.OK || r.Left() != 6 {
			t.Fatalf("%v comes back as %v, error %d", e, got, r.Err())
		}
		for at := range len(s) {
			r := wire.NewReader(s[:at])
			if got := view.TakeEntry(r); got != (api.LogEntry{}) || r.Err() != api.ErrCut {
				t.Fatalf("%v up to %d comes as %v, error %d", e, at, got, r.Err())
			}
		}
	}
	for s, e := range map[string]api.Errno{
		wire.Number(most+1) + "\x01x":         api.ErrMore,
		wire.Number(math.MaxUint64) + "\x01x": api.ErrMore,
		"\x80\x00\x01x":                       api.ErrForm,
		"\x05\x80\x00":                        api.ErrForm,
		"\x05\x02x":                           api.ErrCut,
	} {
		r := wire.NewReader(s)
		if got := view.TakeEntry(r); got != (api.LogEntry{}) || r.Err() != e {
			t.Errorf("%q comes as %v, error %d", s, got, r.Err())
		}
	}
}

// R2: what is put is as it was, and two that are taken share nothing.
func TestBytesAreTheCallers(t *testing.T) {
	m := samples()[1]
	s := put(m)
	if !sameMsgs(msgs(m), msgs(samples()[1])) {
		t.Error("what was put is another one")
	}
	a, b := view.Take(wire.NewReader(s)), view.Take(wire.NewReader(s))
	a.Entries[0].S = "changed"
	if !sameMsgs(msgs(b), msgs(m)) {
		t.Error("two that were taken share something")
	}
}
