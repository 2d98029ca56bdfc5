package wal_test

import (
	"fmt"
	"slices"
	"strings"
	"testing"

	"cohort/api"
	"cohort/disk"
	"cohort/wal"
)

// Promise 12.1: no disk, which is a dead one, too, tells ErrArg.
func TestOpenNoDisk(t *testing.T) {
	if l, torn, e := wal.Open(nil); l != nil || torn != 0 || e != api.ErrArg {
		t.Errorf("Open of no disk: a log %v, %d torn, error %d", l != nil, torn, e)
	}
}

// Promise 12.1: a dead disk tells ErrDead, whatever stands on it, and is as it was.
func TestOpenDead(t *testing.T) {
	for _, s := range []string{"", "torn", frames("s", "a"), frames("s", "a") + "torn"} {
		d := laid(t, s)
		d.Crash(0, 0)
		if l, torn, e := wal.Open(d); l != nil || torn != 0 || e != api.ErrDead {
			t.Errorf("Open of a dead disk with %q: a log %v, %d torn, error %d", s, l != nil, torn, e)
		}
		up(t, "a dead disk", d)
		holds(t, "a dead disk, up again", d, s)
	}
	d := disk.New()
	d.Crash(0, 0)
	if l, torn, e := wal.Open(d); l != nil || torn != 0 || e != api.ErrDead {
		t.Errorf("Open of an empty dead disk: a log %v, %d torn, error %d", l != nil, torn, e)
	}
	up(t, "an empty dead disk", d)
	if l := d.Names(); len(l) != 0 {
		t.Errorf("Open of an empty dead disk left %q", l)
	}
}

// Promise 12.1: without the file there is an empty log, and the file is there behind it, made by a Write and a Move.
func TestOpenNoFile(t *testing.T) {
	d := disk.New()
	l := opened(t, "an empty disk", d, 0)
	stays(t, "an empty disk", l, d, of(""))
	if names := d.Names(); !slices.Equal(names, []string{"log"}) || d.Changes() != 2 {
		t.Errorf("Open of an empty disk: the names %q, %d changes", names, d.Changes())
	}
}

// Promise 12.1: files that have other names are not asked, and stay; the one in which a log is made anew is no log.
func TestOpenOtherFiles(t *testing.T) {
	d := disk.New()
	fine(t, d.Write("fresh", frames("not", "mine")), d.Write("log2", frames("nor", "this")), d.Write("a", "x"), d.Sync())
	l := opened(t, "a disk with other files", d, 0)
	stays(t, "a disk with other files", l, d, of(""))
	if s, e := d.Read("log2"); s != frames("nor", "this") || e != api.OK {
		t.Errorf("another file is %q, error %d", s, e)
	}
	if s, e := d.Read("a"); s != "x" || e != api.OK {
		t.Errorf("another file is %q, error %d", s, e)
	}
	d = laid(t, frames("s", "a"))
	fine(t, d.Write("fresh", frames("not", "mine")), d.Sync())
	stays(t, "a log beside a fresh one", opened(t, "a log beside a fresh one", d, 0), d, of("s", "a"))
}

// Promise 12.1: a snapshot alone, and with records behind it; the disk is not changed.
func TestOpenWhole(t *testing.T) {
	for i, s := range states() {
		d := laid(t, s.bytes())
		l := opened(t, fmt.Sprint("state ", i), d, 0)
		if d.Changes() != 1 {
			t.Errorf("state %d: Open of a file that is right made %d changes", i, d.Changes()-1)
		}
		stays(t, fmt.Sprint("state ", i), l, d, s)
	}
}

// tears is that Open takes off a file what is behind a state, and that it is gone when it is opened again.
func tears(t *testing.T, what string, s string, want state, torn int) {
	t.Helper()
	d := laid(t, s)
	l := opened(t, what, d, torn)
	stays(t, what, l, d, want)
	if d.Changes() != 3 {
		t.Fatalf("%s: %d changes to make it anew", what, d.Changes()-1)
	}
	fine(t, l.Add("more"))
	stays(t, what+", and one more", l, d, want.with("more"))
}

// Promise 12.1: of an empty file nothing is torn, but it is made anew.
func TestOpenEmptyFile(t *testing.T) {
	tears(t, "an empty file", "", of(""), 0)
}

// rubbish is bytes that are no frame, and not the beginning of one if a frame of a comes behind them.
func rubbish() map[string]string {
	whole := frame("record")
	return map[string]string{
		"a length alone":            "\x05",
		"nothing's length":          "\x00",
		"a number that is cut":      "\x80",
		"ten bytes above 127":       strings.Repeat("\xff", 10),
		"a number with a 0 behind":  "\x86\x00" + whole[1:],
		"that, and the sum of it":   summed("\x86\x00record"),
		"words":                     "torn",
		"a sum that is not right":   whole[:len(whole)-1] + string(whole[len(whole)-1]^1),
		"a sum of the text alone":   whole[:7] + summed("record")[6:],
		"a sum turned round":        whole[:7] + string([]byte{whole[10], whole[9], whole[8], whole[7]}),
		"a text that is another":    strings.Replace(whole, "c", "k", 1),
		"no sum":                    whole[:7],
		"zeros":                     strings.Repeat("\x00", 64),
		"a length beyond all there": "\xff\xff\xff\xff\xff\xff\xff\xff\xff\x01" + whole,
		"a length of more than 64":  "\xff\xff\xff\xff\xff\xff\xff\xff\xff\x02" + whole,
		"great rubbish":             strings.Repeat("rubbish", 100000),
	}
}

// Promise 12.1: bytes that are no frame, at the front, in the midst and at the end: all from there on is torn.
func TestOpenRubbish(t *testing.T) {
	for name, bad := range rubbish() {
		tears(t, name+" alone", bad, of(""), len(bad))
		behind := frames("a", "b", strings.Repeat("c", 300))
		tears(t, name+" at the front", bad+behind, of(""), len(bad+behind))
		tears(t, name+" behind the snapshot", frame("s")+bad+behind, of("s"), len(bad+behind))
		tears(t, name+" in the midst", frames("s", "x", "")+bad+behind, of("s", "x", ""), len(bad+behind))
		tears(t, name+" at the end", frames("s", "x", "")+bad, of("s", "x", ""), len(bad))
	}
}

// Promise 12.1: a file that is cut off at each of its bytes.
func TestOpenCut(t *testing.T) {
	texts := []string{"snap", "one", "", strings.Repeat("r", 130), "end"}
	all := frames(texts...)
	for n := range len(all) + 1 {
		many, whole := 0, 0
		for many < len(texts) && whole+len(frame(texts[many])) <= n {
			whole += len(frame(texts[many]))
			many++
		}
		what, want := fmt.Sprintf("cut off at %d of %d bytes", n, len(all)), of("")
		if many > 0 {
			want = of(texts[0], texts[1:many]...)
		}
		if many > 0 && whole == n {
			d := laid(t, all[:n])
			stays(t, what, opened(t, what, d, 0), d, want)
			continue
		}
		tears(t, what, all[:n], want, n-whole)
	}
}

// Promise 12.1: with any bit another one, the frames ahead are there, and no others.
func TestOpenBits(t *testing.T) {
	texts := []string{"snap", "one", "", strings.Repeat("r", 130), "end"}
	all, ahead := []byte(frames(texts...)), 0
	for i, s := range texts {
		want := of("")
		if i > 0 {
			want = of(texts[0], texts[1:i]...)
		}
		for at := ahead; at < ahead+len(frame(s)); at++ {
			for bit := range 8 {
				all[at] ^= 1 << bit
				tears(t, fmt.Sprintf("bit %d of byte %d", bit, at), string(all), want, len(all)-ahead)
				all[at] ^= 1 << bit
			}
		}
		ahead += len(frame(s))
	}
}

// Promise 12.1: Open tells of two logs of two disks apart.
func TestOpenTwo(t *testing.T) {
	a, d := logOf(t, of("s", "a"))
	b, f := logOf(t, of("t", "b"))
	fine(t, a.Add("x"), b.Reset("u", []string{"y"}), a.Add("z"))
	stays(t, "the first", a, d, of("s", "a", "x", "z"))
	stays(t, "the second", b, f, of("u", "y"))
}

// Promise 12.1, R4: the same disk opened twice tells the same, and making anew only once.
func TestOpenTwice(t *testing.T) {
	d := laid(t, frames("s", "a")+"torn")
	c := d.Clone()
	stays(t, "once", opened(t, "once", d, 4), d, of("s", "a"))
	stays(t, "twice", opened(t, "twice", d, 0), d, of("s", "a"))
	stays(t, "a clone", opened(t, "a clone", c, 4), c, of("s", "a"))
}
