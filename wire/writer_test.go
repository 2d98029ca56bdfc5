package wire_test

import (
	"math"
	"testing"

	"cohort/wire"
)

// Promise 1.3.
func TestWriterPuts(t *testing.T) {
	for _, x := range []struct {
		name string
		put  func(w *wire.Writer)
		want string
	}{
		{"nothing", func(w *wire.Writer) {}, ""},
		{"no bytes", func(w *wire.Writer) { w.Bytes("") }, ""},
		{"bytes", func(w *wire.Writer) { w.Bytes("a\x00\xff") }, "a\x00\xff"},
		{"Number(0)", func(w *wire.Writer) { w.Number(0) }, "\x00"},
		{"Number(300)", func(w *wire.Writer) { w.Number(300) }, "\xac\x02"},
		{"the greatest number", func(w *wire.Writer) { w.Number(math.MaxUint64) }, "\xff\xff\xff\xff\xff\xff\xff\xff\xff\x01"},
		{"Signed(0)", func(w *wire.Writer) { w.Signed(0) }, "\x00"},
		{"Signed(-1)", func(w *wire.Writer) { w.Signed(-1) }, "\x01"},
		{"Signed(150)", func(w *wire.Writer) { w.Signed(150) }, "\xac\x02"},
		{"the least number", func(w *wire.Writer) { w.Signed(math.MinInt64) }, "\xff\xff\xff\xff\xff\xff\xff\xff\xff\x01"},
		{"Count(0)", func(w *wire.Writer) { w.Count(0) }, "\x00"},
		{"Count(300)", func(w *wire.Writer) { w.Count(300) }, "\xac\x02"},
		{"Count(-1)", func(w *wire.Writer) { w.Count(-1) }, "\x00"},
		{"the least count", func(w *wire.Writer) { w.Count(math.MinInt) }, "\x00"},
		{"the greatest count", func(w *wire.Writer) { w.Count(math.MaxInt) }, "\xff\xff\xff\xff\xff\xff\xff\xff\x7f"},
		{"no text", func(w *wire.Writer) { w.Text("") }, "\x00"},
		{"a text", func(w *wire.Writer) { w.Text("a\x00") }, "\x02a\x00"},
		{"yes", func(w *wire.Writer) { w.Bool(true) }, "\x01"},
		{"no", func(w *wire.Writer) { w.Bool(false) }, "\x00"},
	} {
		w := wire.NewWriter()
		x.put(w)
		if w.All() != x.want || w.Len() != len(x.want) {
			t.Errorf("%s: %q of %d bytes, not %q", x.name, w.All(), w.Len(), x.want)
		}
		// Behind something else it is put the same.
		w = wire.NewWriter()
		w.Bytes("ahead")
		x.put(w)
		w.Bytes("behind")
		if w.All() != "ahead"+x.want+"behind" || w.Len() != 11+len(x.want) {
			t.Errorf("%s between others: %q of %d bytes", x.name, w.All(), w.Len())
		}
	}
}

// Promise 1.3.
func TestWriterNumbersAndTexts(t *testing.T) {
	for _, n := range samples() {
		w := wire.NewWriter()
		w.Number(n)
		if w.All() != wire.Number(n) {
			t.Errorf("%d is put as %q", n, w.All())
		}
	}
	for _, n := range signedSamples() {
		w := wire.NewWriter()
		w.Signed(n)
		if w.All() != wire.Number(wire.Fold(n)) {
			t.Errorf("%d is put as %q", n, w.All())
		}
	}
	for _, s := range texts() {
		w := wire.NewWriter()
		w.Text(s)
		if w.All() != wire.Number(uint64(len(s)))+s {
			t.Errorf("a text of %d bytes is put as another one", len(s))
		}
	}
}

// Promise 1.3, R2: what All answered stays as it is when more is put.
func TestWriterAllStays(t *testing.T) {
	w := wire.NewWriter()
	told := []string{}
	want := ""
	for i := range 300 {
		told = append(told, w.All())
		w.Number(uint64(i))
		want += wire.Number(uint64(i))
	}
	for i, s := range told {
		if s != want[:len(s)] || i > 0 && len(s) <= len(told[i-1]) {
			t.Fatalf("what was told behind %d numbers has changed", i)
		}
	}
	if w.All() != want || w.All() != want || w.Len() != len(want) {
		t.Error("all of it is another one")
	}
}

// Promise 1.3.
func TestWriterNil(t *testing.T) {
	var w *wire.Writer
	w.Bytes("a")
	w.Number(1)
	w.Signed(-1)
	w.Count(1)
	w.Count(-1)
	w.Text("a")
	w.Bool(true)
	w.Bool(false)
	if w.Len() != 0 || w.All() != "" {
		t.Errorf("a nil writer has %q of %d bytes", w.All(), w.Len())
	}
}

// R5: two writers have nothing to do with one another.
func TestWritersApart(t *testing.T) {
	a, b := wire.NewWriter(), wire.NewWriter()
	a.Text("a")
	b.Text("b")
	a.Text("c")
	if a.All() != "\x01a\x01c" || b.All() != "\x01b" {
		t.Errorf("two writers have %q and %q", a.All(), b.All())
	}
}
