package rnode_test

import (
	"encoding/binary"
	"fmt"
	"reflect"
	"slices"
	"testing"

	"cohort/api"
	"cohort/disk"
	"cohort/rnode"
	"cohort/view"
	"cohort/wal"
)

// most is the greatest view, and the greatest index of a snapshot.
const most = 1<<31 - 1

// log is entries, each written as the digit of its view and its text.
func log(l ...string) []api.LogEntry {
	var out []api.LogEntry
	for _, s := range l {
		out = append(out, api.LogEntry{View: int(s[0] - '0'), S: s[1:]})
	}
	return out
}

// many is so many entries of view 0, whose texts are their indices.
func many(first, n int) []api.LogEntry {
	var out []api.LogEntry
	for i := range n {
		out = append(out, api.LogEntry{S: fmt.Sprint(first + i)})
	}
	return out
}

// hard is what is kept without a snapshot.
func hard(of, normal int, l ...string) api.Hard {
	return api.Hard{View: of, Normal: normal, Log: log(l...)}
}

// based is what is kept behind a snapshot.
func based(of, normal, index, baseView int, base string, l ...string) api.Hard {
	return api.Hard{View: of, Normal: normal, BaseIndex: index, BaseView: baseView, Base: base, Log: log(l...)}
}

// bare is a message with nothing beside its view.
func bare(kind, from, to, of int) api.ViewMsg {
	return api.ViewMsg{Kind: kind, From: from, To: to, View: of}
}

func prepare(from, to, of, index, commit int, l ...api.LogEntry) api.ViewMsg {
	m := bare(api.ViewPrepare, from, to, of)
	m.Index, m.Commit, m.Entries = index, commit, l
	return m
}

func okay(from, to, of, index int) api.ViewMsg {
	m := bare(api.ViewOk, from, to, of)
	m.Index = index
	return m
}

// whole is a message with all that one has that kept that.
func whole(kind, from, to, commit int, h api.Hard) api.ViewMsg {
	return api.ViewMsg{Kind: kind, From: from, To: to, View: h.View, Normal: h.Normal, Index: h.BaseIndex + len(h.Log), Commit: commit,
		BaseIndex: h.BaseIndex, BaseView: h.BaseView, Base: h.Base, Entries: h.Log}
}

// numbers is numbers in bytes, made by others than package wire.
func numbers(l ...int) string {
	var b []byte
	for _, x := range l {
		b = binary.AppendUvarint(b, uint64(x))
	}
	return string(b)
}

// text is a text in bytes.
func text(s string) string { return numbers(len(s)) + s }

// snapBytes is a snapshot as the chapter has it.
func snapBytes(index, baseView int, base string) string {
	return numbers(index, baseView) + text(base)
}

// recBytes is a record as the chapter has it.
func recBytes(of, normal, from int, l ...api.LogEntry) string {
	s := numbers(of, normal, from, len(l))
	for _, e := range l {
		s += numbers(e.View) + text(e.S)
	}
	return s
}

// paper is what must stand on a disk, and what that says.
type paper struct {
	snap    string
	records []string
	says    api.Hard
}

// whole is a disk's paper that was laid anew.
func (p *paper) whole(h api.Hard) {
	p.snap, p.records = "", []string{recBytes(h.View, h.Normal, h.BaseIndex, h.Log...)}
	if h.BaseIndex > 0 {
		p.snap = snapBytes(h.BaseIndex, h.BaseView, h.Base)
	}
}

// keep is what must stand there when something is kept.
func (p *paper) keep(h api.Hard) {
	last := p.says
	p.says = h
	if h.BaseIndex != last.BaseIndex || len(p.records) > 40 {
		p.whole(h)
		return
	}
	if sameHard(h, last) {
		return
	}
	same := 0
	for same < len(h.Log) && same < len(last.Log) && h.Log[same] == last.Log[same] {
		same++
	}
	p.records = append(slices.Clone(p.records), recBytes(h.View, h.Normal, h.BaseIndex+same, h.Log[same:]...))
}

// stands is that a disk has just that for sure, and that nothing is loose there.
func (p *paper) stands(t *testing.T, what string, d *disk.Disk) {
	t.Helper()
	if d.Loose() != 0 {
		t.Fatalf("%s: %d changes are loose", what, d.Loose())
	}
	snap, records := lies(t, what, d)
	if snap != p.snap || !slices.Equal(records, p.records) {
		t.Fatalf("%s: on the disk stand %q and %d records %q, and not %q and %d records %q", what, snap, len(records), records, p.snap, len(p.records), p.records)
	}
}

// lies is what stands on a disk when its power has failed.
func lies(t *testing.T, what string, d *disk.Disk) (string, []string) {
	t.Helper()
	c := d.Clone()
	c.Plan(nil)
	c.Crash(0, 0)
	c.Up()
	l, torn, e := wal.Open(c)
	if e != api.OK || torn != 0 {
		t.Fatalf("%s: what stands on the disk: error %d, %d bytes torn", what, e, torn)
	}
	return l.Snap(), l.All()
}

// laid is a disk with a snapshot and records, which are sure.
func laid(t *testing.T, snap string, records ...string) *disk.Disk {
	t.Helper()
	d := disk.New()
	l, _, e := wal.Open(d)
	if e != api.OK || l.Reset(snap, records) != api.OK {
		t.Fatalf("laid: error %d", e)
	}
	return d
}

// keeps is a disk on which a master was kept, by one record.
func keeps(t *testing.T, h api.Hard) (*disk.Disk, *paper) {
	t.Helper()
	p := &paper{says: h}
	p.whole(h)
	return laid(t, p.snap, p.records...), p
}

// open is a master that stands up.
func open(t *testing.T, what string, d *disk.Disk, me, all int) *rnode.Node {
	t.Helper()
	n, e := rnode.Open(d, me, all)
	if e != api.OK || n == nil {
		t.Fatalf("%s: Open(%d, %d): error %d", what, me, all, e)
	}
	return n
}

// opensNot is that Open tells an error and nothing more.
func opensNot(t *testing.T, what string, d *disk.Disk, me, all int, should api.Errno) {
	t.Helper()
	if n, e := rnode.Open(d, me, all); e != should || n != nil {
		t.Fatalf("%s: Open(%d, %d) tells error %d, and not %d, and a node: %t", what, me, all, e, should, n != nil)
	}
}

// shadow is a master without a disk that has kept something.
func shadow(t *testing.T, me, all int, h api.Hard) *view.Node {
	t.Helper()
	v, e := view.New(me, all, h)
	if e != api.OK {
		t.Fatalf("view.New(%d, %d, %v): error %d", me, all, h, e)
	}
	return v
}

// sameHard holds what is kept against each other; an empty list is as none.
func sameHard(a, b api.Hard) bool {
	if len(a.Log) == 0 && len(b.Log) == 0 {
		a.Log, b.Log = nil, nil
	}
	return reflect.DeepEqual(a, b)
}

// sameMsgs holds messages against each other.
func sameMsgs(a, b []api.ViewMsg) bool {
	return slices.EqualFunc(a, b, func(x, y api.ViewMsg) bool {
		if len(x.Entries) == 0 && len(y.Entries) == 0 {
			x.Entries, y.Entries = nil, nil
		}
		return reflect.DeepEqual(x, y)
	})
}

// has is that a master is as one without a disk, and stands on its snapshot.
func has(t *testing.T, what string, n *rnode.Node, v *view.Node, at int) {
	t.Helper()
	h, got := v.Hard(), n.View()
	if !sameHard(got.Hard(), h) || got.Commit() != v.Commit() || got.Role() != v.Role() || got.Leader() != v.Leader() || got.Ready() != v.Ready() {
		t.Fatalf("%s: it has %v, %d of it is committed, and not %v, %d", what, got.Hard(), got.Commit(), h, v.Commit())
	}
	if s, index := n.Base(); s != h.Base || index != h.BaseIndex {
		t.Fatalf("%s: Base tells %q, %d, and not %q, %d", what, s, index, h.Base, h.BaseIndex)
	}
	if n.At() != at || n.Dead() {
		t.Fatalf("%s: At tells %d, and not %d; dead: %t", what, n.At(), at, n.Dead())
	}
}

// told is that a call told just that.
func told(t *testing.T, what string, got []api.ViewMsg, e api.Errno, should []api.ViewMsg) {
	t.Helper()
	if e != api.OK || !sameMsgs(got, should) {
		t.Fatalf("%s: error %d, %v, and not %v", what, e, got, should)
	}
}

// next is that Next hands out just that.
func next(t *testing.T, what string, n *rnode.Node, should api.Given) {
	t.Helper()
	if g, ok := n.Next(); !ok || g != should || n.At() != should.Index {
		t.Fatalf("%s: Next tells %v, %t, and not %v; At %d", what, g, ok, should, n.At())
	}
}

// noNext is that Next hands out nothing.
func noNext(t *testing.T, what string, n *rnode.Node) {
	t.Helper()
	at := n.At()
	if g, ok := n.Next(); ok || g != (api.Given{}) || n.At() != at {
		t.Fatalf("%s: Next tells %v, %t", what, g, ok)
	}
}

// isDead is that every call of a master without power tells so, and that its disk is left alone.
func isDead(t *testing.T, what string, n *rnode.Node) {
	t.Helper()
	if !n.Dead() {
		t.Fatalf("%s: it is not dead", what)
	}
	if l, e := n.Tick(); e != api.ErrDead || l != nil {
		t.Fatalf("%s: Tick tells error %d, %v", what, e, l)
	}
	for kind := range 8 {
		for from := range 3 {
			for to := range 3 {
				if l, e := n.Step(bare(kind, from, to, 9)); e != api.ErrDead || l != nil {
					t.Fatalf("%s: Step tells error %d, %v", what, e, l)
				}
			}
		}
	}
	if index, l, e := n.Propose("x"); e != api.ErrDead || l != nil || index != 0 {
		t.Fatalf("%s: Propose tells %d, error %d, %v", what, index, e, l)
	}
	if ok, e := n.Compact("x"); e != api.ErrDead || ok {
		t.Fatalf("%s: Compact tells %t, error %d", what, ok, e)
	}
	if !n.Dead() {
		t.Fatalf("%s: it is not dead any more", what)
	}
}

// parse goes through bytes that are right.
type parse struct{ s string }

func (p *parse) number() int {
	x, size := binary.Uvarint([]byte(p.s))
	p.s = p.s[size:]
	return int(x)
}

func (p *parse) text() string {
	size := p.number()
	s := p.s[:size]
	p.s = p.s[size:]
	return s
}
