package rnode_test

import (
	"fmt"
	"math"
	"strings"
	"testing"

	"cohort/api"
	"cohort/disk"
	"cohort/rnode"
)

// Promise 14.1: Open of a disk on which nothing is: a master that has nothing; no record comes.
func TestOpenNothing(t *testing.T) {
	for all := 1; all <= 7; all++ {
		for me := range all {
			what := fmt.Sprintf("%d of %d", me, all)
			d := disk.New()
			n := open(t, what, d, me, all)
			has(t, what, n, shadow(t, me, all, api.Hard{}), 0)
			noNext(t, what, n)
			(&paper{}).stands(t, what, d)
			n = open(t, what+", again", d, me, all)
			has(t, what+", again", n, shadow(t, me, all, api.Hard{}), 0)
			if d.Changes() != 2 {
				t.Fatalf("%s: %d changes of the disk", what, d.Changes())
			}
		}
	}
}

// readable is papers by hand, and what they say.
func readable() map[string]struct {
	snap    string
	records []string
	says    api.Hard
} {
	e := func(l ...string) []api.LogEntry { return log(l...) }
	type row = struct {
		snap    string
		records []string
		says    api.Hard
	}
	full := many(1, 1000)
	return map[string]row{
		"a view":                         {"", []string{recBytes(7, 3, 0)}, hard(7, 3)},
		"entries":                        {"", []string{recBytes(2, 2, 0, e("0a", "1", "2ccc")...)}, hard(2, 2, "0a", "1", "2ccc")},
		"the last view counts":           {"", []string{recBytes(9, 9, 0), recBytes(5, 4, 0)}, hard(5, 4)},
		"entries behind entries":         {"", []string{recBytes(0, 0, 0, e("0a")...), recBytes(0, 0, 1, e("0b", "0c")...), recBytes(1, 0, 3)}, hard(1, 0, "0a", "0b", "0c")},
		"entries in the place of others": {"", []string{recBytes(0, 0, 0, e("0a", "0b", "0c")...), recBytes(1, 1, 1, e("1x")...)}, hard(1, 1, "0a", "1x")},
		"all are gone":                   {"", []string{recBytes(0, 0, 0, e("0a", "0b", "0c")...), recBytes(1, 1, 0)}, hard(1, 1)},
		"the last is gone, and comes":    {"", []string{recBytes(0, 0, 0, e("0a", "0b")...), recBytes(0, 0, 1), recBytes(0, 0, 1, e("0b")...)}, hard(0, 0, "0a", "0b")},
		"a snapshot":                     {snapBytes(5, 2, "base"), nil, based(0, 0, 5, 2, "base")},
		"an empty snapshot of 3":         {snapBytes(3, 0, ""), []string{recBytes(4, 4, 3, e("1a")...)}, based(4, 4, 3, 0, "", "1a")},
		"a snapshot of none":             {snapBytes(0, 0, ""), []string{recBytes(4, 4, 0, e("1a")...)}, hard(4, 4, "1a")},
		"behind a snapshot":              {snapBytes(5, 2, "base"), []string{recBytes(3, 3, 5, e("2a", "3b")...), recBytes(3, 3, 7, e("3c")...), recBytes(6, 3, 6, e("6d")...)}, based(6, 3, 5, 2, "base", "2a", "6d")},
		"the greatest":                   {snapBytes(most, most, "x"), []string{recBytes(most, most, most)}, based(most, most, most, most, "x")},
		"behind the greatest":            {snapBytes(most, 1, "x"), []string{recBytes(1, 1, most, e("1a")...), recBytes(1, 1, most+1, e("1b")...)}, based(1, 1, most, 1, "x", "1a", "1b")},
		"as many as may be":              {"", []string{recBytes(0, 0, 0, full...), recBytes(1, 0, 1000)}, api.Hard{View: 1, Log: full}},
		"as many in two":                 {snapBytes(5, 0, ""), []string{recBytes(0, 0, 5, full[:999]...), recBytes(0, 0, 1004, full[999:]...)}, api.Hard{BaseIndex: 5, Log: full}},
		"too many for a time":            {"", []string{recBytes(0, 0, 0, full...), recBytes(0, 0, 1000, full...), recBytes(0, 0, 2)}, api.Hard{Log: full[:2]}},
		"views of entries":               {"", []string{recBytes(0, 0, 0, api.LogEntry{View: most, S: "\x00\xff"}, api.LogEntry{View: 300})}, api.Hard{Log: []api.LogEntry{{View: most, S: "\x00\xff"}, {View: 300}}}},
		"long texts":                     {snapBytes(1, 1, strings.Repeat("s", 70000)), []string{recBytes(1, 1, 1, api.LogEntry{View: 1, S: strings.Repeat("e", 300)})}, based(1, 1, 1, 1, strings.Repeat("s", 70000), "1"+strings.Repeat("e", 300))},
		"a view that is undone":          {"", []string{recBytes(2, 5, 0), recBytes(5, 5, 0)}, hard(5, 5)},
	}
}

// Promise 14.1: what is read back, and that it has been handed out up to BaseIndex; the disk is left as it is.
func TestOpenKept(t *testing.T) {
	for name, x := range readable() {
		for all := 1; all <= 3; all++ {
			what := fmt.Sprintf("%s, among %d", name, all)
			d := laid(t, x.snap, x.records...)
			changes := d.Changes()
			n := open(t, what, d, 0, all)
			has(t, what, n, shadow(t, 0, all, x.says), x.says.BaseIndex)
			if d.Changes() != changes {
				t.Errorf("%s: %d changes of the disk", what, d.Changes()-changes)
			}
			(&paper{snap: x.snap, records: x.records}).stands(t, what, d)
			if all > 1 {
				noNext(t, what, n)
				continue
			}
			for i, e := range x.says.Log {
				next(t, what, n, api.Given{Index: x.says.BaseIndex + 1 + i, View: e.View, S: e.S})
			}
			noNext(t, what, n)
		}
	}
}

// Promise 14.1: bytes that were torn off the log are no fault.
func TestOpenTorn(t *testing.T) {
	d, p := keeps(t, based(4, 4, 5, 2, "base", "2a", "3b"))
	if d.Append("log", "torn") != api.OK {
		t.Fatal("Append")
	}
	n := open(t, "torn", d, 0, 2)
	has(t, "torn", n, shadow(t, 0, 2, p.says), 5)
	p.stands(t, "torn", d)
}

// wrongBytes is bytes that are not of the form, made of parts of which the bytes are these, with bounds for the numbers among them.
func wrongBytes(parts []string, bounds []int) map[string]string {
	out := map[string]string{}
	all := strings.Join(parts, "")
	for at := range len(all) {
		out[fmt.Sprintf("cut off behind %d bytes", at)] = all[:at]
	}
	for i, bound := range bounds {
		ahead, behind := strings.Join(parts[:i], ""), strings.Join(parts[i+1:], "")
		if bound > 0 {
			for _, x := range []int{bound + 1, bound + 2, 1 << 40, math.MaxInt, -1} { // -1 is the greatest number there is
				out[fmt.Sprintf("part %d is %d", i, x)] = ahead + numbers(x) + behind
			}
		}
		out[fmt.Sprintf("part %d is of another form", i)] = ahead + "\x80\x00" + behind
		out[fmt.Sprintf("part %d goes on without end", i)] = ahead + strings.Repeat("\xff", 11) + behind
	}
	for _, more := range []string{"\x00", "x", all} {
		out[fmt.Sprintf("%q left over", more)] = all + more
	}
	return out
}

// Promise 14.1: ErrForm, if the snapshot is of another form.
func TestOpenWrongSnapshot(t *testing.T) {
	parts := []string{numbers(300), numbers(2), text("base")}
	for what, s := range wrongBytes(parts, []int{most, most, 0}) {
		if s == "" {
			continue
		}
		opensNot(t, what, laid(t, s), 0, 1, api.ErrForm)
		opensNot(t, what+", with a record", laid(t, s, recBytes(1, 1, 300)), 0, 1, api.ErrForm)
		opensNot(t, what+", with a wrong master", laid(t, s), 1, 1, api.ErrForm)
	}
	opensNot(t, "a text without end", laid(t, numbers(1, 1, 1<<62)+"x"), 0, 1, api.ErrForm)
	opensNot(t, "a text that is too long", laid(t, numbers(1, 1, 5)+"base"), 0, 1, api.ErrForm)
}

// Promise 14.1: ErrForm, if a record is of another form, wherever it stands.
func TestOpenWrongRecord(t *testing.T) {
	parts := []string{numbers(300), numbers(200), numbers(2), numbers(2), numbers(7), text("a"), numbers(8), text("bcd")}
	good := []string{recBytes(1, 1, 1), recBytes(1, 1, 1, log("0a")...)}
	for what, s := range wrongBytes(parts, []int{most, most, 2, 1000, most, 0, most, 0}) {
		opensNot(t, what, laid(t, snapBytes(1, 0, ""), good[0], good[1], s), 0, 1, api.ErrForm)
		opensNot(t, what+", not the last", laid(t, snapBytes(1, 0, ""), good[0], good[1], s, good[1]), 0, 1, api.ErrForm)
		opensNot(t, what+", with a wrong master", laid(t, snapBytes(1, 0, ""), good[0], good[1], s), 0, 8, api.ErrForm)
	}
	opensNot(t, "an empty record", laid(t, "", ""), 0, 1, api.ErrForm)
	opensNot(t, "more entries than may be", laid(t, "", recBytes(0, 0, 0, many(1, 1001)...)), 0, 1, api.ErrForm)
	opensNot(t, "fewer entries than it says", laid(t, "", numbers(0, 0, 0, 3)+numbers(0)+text("a")+numbers(0)+text("b")), 0, 1, api.ErrForm)
	opensNot(t, "more entries than it says", laid(t, "", numbers(0, 0, 0, 1)+numbers(0)+text("a")+numbers(0)+text("b")), 0, 1, api.ErrForm)
}

// Promise 14.1: ErrForm, if a record begins at an entry that is not there, and not at the edges of what is there.
func TestOpenBeginsAt(t *testing.T) {
	for _, base := range []int{0, 1, 5, most - 1, most} {
		for had := range 4 {
			for from := max(base-3, 0); from <= base+had+3; from++ {
				for more := range 3 {
					what := fmt.Sprintf("%d entries behind %d, and %d from %d on", had, base, more, from)
					snap := ""
					if base > 0 {
						snap = snapBytes(base, 0, "s")
					}
					d := laid(t, snap, recBytes(2, 2, base, many(base+1, had)...), recBytes(2, 2, from, many(70, more)...))
					if from < base || from > base+had {
						opensNot(t, what, d, 0, 1, api.ErrForm)
						continue
					}
					h := open(t, what, d, 0, 1).View().Hard()
					should := append(many(base+1, from-base), many(70, more)...)
					if len(h.Log) != len(should) || h.BaseIndex != base {
						t.Fatalf("%s: %v", what, h)
					}
					for i := range should {
						if h.Log[i] != should[i] {
							t.Fatalf("%s: %v", what, h)
						}
					}
				}
			}
		}
	}
	for _, from := range []int{1, 2, 1000, most, most + 1, math.MaxInt, -1} {
		opensNot(t, fmt.Sprintf("the first begins at %d", from), laid(t, "", recBytes(0, 0, from)), 0, 1, api.ErrForm)
	}
}

// Promise 14.1: view.New's error: masters that may not be, a Normal above the view, and too many entries.
func TestOpenWrongMaster(t *testing.T) {
	odd := []int{math.MinInt, -1, 0, 1, 2, 6, 7, 8, 9, math.MaxInt}
	for _, me := range odd {
		for _, all := range odd {
			what := fmt.Sprintf("%d of %d", me, all)
			ok := all >= 1 && all <= 7 && me >= 0 && me < all
			for _, d := range []*disk.Disk{disk.New(), laid(t, snapBytes(5, 2, "base"), recBytes(3, 3, 5, log("2a")...))} {
				if ok {
					open(t, what, d, me, all)
				} else {
					opensNot(t, what, d, me, all, api.ErrArg)
				}
			}
		}
	}
	opensNot(t, "Normal above the view", laid(t, "", recBytes(2, 2, 0), recBytes(2, 3, 0)), 0, 1, api.ErrArg)
	opensNot(t, "too many entries", laid(t, "", recBytes(0, 0, 0, many(1, 1000)...), recBytes(0, 0, 1000, log("0a")...)), 0, 1, api.ErrArg)
	opensNot(t, "too many entries behind a snapshot", laid(t, snapBytes(9, 0, ""), recBytes(0, 0, 9, many(1, 500)...), recBytes(0, 0, 509, many(1, 501)...)), 0, 1, api.ErrArg)
}

// Promise 14.1: wal.Open's error goes ahead of all: no disk, a dead one, one whose power fails while the log is made.
func TestOpenWrongDisk(t *testing.T) {
	opensNot(t, "no disk", nil, 0, 1, api.ErrArg)
	opensNot(t, "no disk, no master", nil, 3, 2, api.ErrArg)
	for _, d := range []*disk.Disk{disk.New(), laid(t, "rubbish"), laid(t, snapBytes(5, 2, "base"))} {
		d.Crash(0, 0)
		opensNot(t, "a dead disk", d, 0, 1, api.ErrDead)
		opensNot(t, "a dead disk, no master", d, 8, 8, api.ErrDead)
	}
	for at := range 2 {
		d := disk.New()
		d.Plan([]api.Fall{{At: at}})
		opensNot(t, "the power fails while the log is made", d, 0, 1, api.ErrDead)
		if !d.Up() {
			t.Fatal("the disk was not dead")
		}
		has(t, "opened again", open(t, "opened again", d, 0, 1), shadow(t, 0, 1, api.Hard{}), 0)
	}
}

// Promise 14.1: a nil node, and one that Open did not make.
func TestNil(t *testing.T) {
	for what, n := range map[string]*rnode.Node{"a nil node": nil, "a node of nobody": {}} {
		isDead(t, what, n)
		noNext(t, what, n)
		if s, index := n.Base(); s != "" || index != 0 || n.At() != 0 || n.View() != nil {
			t.Errorf("%s: Base tells %q, %d, At %d", what, s, index, n.At())
		}
	}
}
