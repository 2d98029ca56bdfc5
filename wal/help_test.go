package wal_test

import (
	"encoding/binary"
	"hash/crc32"
	"slices"
	"strconv"
	"strings"
	"testing"

	"cohort/api"
	"cohort/disk"
	"cohort/wal"
)

// state is what a log has.
type state struct {
	snap    string
	records []string
}

// with is a state with more records.
func (s state) with(records ...string) state {
	return state{s.snap, slices.Concat(s.records, records)}
}

// is tells whether two states are the same.
func (s state) is(o state) bool {
	return s.snap == o.snap && slices.Equal(s.records, o.records)
}

// of is a state in few words.
func of(snap string, records ...string) state { return state{snap, records} }

// bytes is the file of a state.
func (s state) bytes() string { return frames(append([]string{s.snap}, s.records...)...) }

// frame is a frame as chapter 1 has it, made by others than package wire.
func frame(s string) string {
	b := binary.AppendUvarint(nil, uint64(len(s)))
	return summed(string(append(b, s...)))
}

// summed is bytes with their sum behind them.
func summed(s string) string {
	return s + string(binary.LittleEndian.AppendUint32(nil, crc32.ChecksumIEEE([]byte(s))))
}

// frames is frames one behind the other.
func frames(texts ...string) string {
	all := ""
	for _, s := range texts {
		all += frame(s)
	}
	return all
}

// states is states of all kinds: with and without a snapshot, records, and bytes in these.
func states() []state {
	great := strings.Repeat("\x00\x80\xffz", 40000)
	return []state{
		of(""),
		of("snap"),
		of("", ""),
		of("", "a"),
		of("", "", "", ""),
		of("s", "a", "b", "a"),
		of("s", "", "b", ""),
		of("\x00\xff\n", "\x80", frame("a"), frames("b", "c")),
		of(frames("", "x"), frame("")),
		of(strings.Repeat("n", 127), strings.Repeat("m", 128)),
		of(great, great, "a", great+great),
		of("s", strings.Split(strings.Repeat("r,", 1000), ",")...),
	}
}

// fine is that no call told an error.
func fine(t *testing.T, l ...api.Errno) {
	t.Helper()
	for i, e := range l {
		if e != api.OK {
			t.Fatalf("call %d: error %d", i, e)
		}
	}
}

// laid is a disk with bytes as the log, which are sure.
func laid(t *testing.T, s string) *disk.Disk {
	t.Helper()
	d := disk.New()
	fine(t, d.Write("log", s), d.Sync())
	return d
}

// opened is what Open tells of a disk, without an error, and with so many bytes torn.
func opened(t *testing.T, what string, d *disk.Disk, torn int) *wal.Log {
	t.Helper()
	l, n, e := wal.Open(d)
	if l == nil || n != torn || e != api.OK {
		t.Fatalf("%s: Open tells a log %v, %d bytes torn, not %d, error %d", what, l != nil, n, torn, e)
	}
	return l
}

// logOf is a log of a new disk with a state.
func logOf(t *testing.T, s state) (*wal.Log, *disk.Disk) {
	t.Helper()
	d := laid(t, s.bytes())
	return opened(t, "a log that is laid", d, 0), d
}

// taken is the state that a log tells.
func taken(l *wal.Log) state { return state{l.Snap(), l.All()} }

// has is that a log tells just this state.
func has(t *testing.T, what string, l *wal.Log, want state) {
	t.Helper()
	if got := taken(l); !got.is(want) || l.Len() != len(want.records) {
		t.Fatalf("%s: %s and %d records %s, not %s and %d records %s", what, brief(got.snap), l.Len(), brief(got.records...), brief(want.snap), len(want.records), brief(want.records...))
	}
}

// brief is texts, cut short where they are long.
func brief(l ...string) string {
	all := ""
	for _, s := range l {
		all += " " + strconv.Quote(s[:min(len(s), 12)])
	}
	return all[:min(len(all), 200)]
}

// holds is that a disk has just this file as its log, and that nothing is loose.
func holds(t *testing.T, what string, d *disk.Disk, want string) {
	t.Helper()
	s, e := d.Read("log")
	if s != want || e != api.OK || d.Loose() != 0 {
		t.Fatalf("%s: the file has %d bytes %s, error %d, %d changes loose, not %d bytes %s", what, len(s), brief(s), e, d.Loose(), len(want), brief(want))
	}
}

// stays is that a log and its disk have a state, now and when it is opened again behind a crash, which then changes nothing.
func stays(t *testing.T, what string, l *wal.Log, d *disk.Disk, want state) {
	t.Helper()
	has(t, what, l, want)
	holds(t, what, d, want.bytes())
	c := d.Clone()
	c.Crash(0, 0)
	c.Up()
	changes := c.Changes()
	has(t, what+", opened again", opened(t, what+", opened again", c, 0), want)
	holds(t, what+", opened again", c, want.bytes())
	if c.Changes() != changes {
		t.Fatalf("%s: opened again, the disk has %d changes more", what, c.Changes()-changes)
	}
}

// dies is that a call told ErrDead, and the disk is dead.
func dies(t *testing.T, what string, d *disk.Disk, e api.Errno) {
	t.Helper()
	if e != api.ErrDead || !d.Dead() {
		t.Fatalf("%s: error %d, the disk is dead: %v", what, e, d.Dead())
	}
}

// up turns the power of a dead disk on.
func up(t *testing.T, what string, d *disk.Disk) {
	t.Helper()
	if !d.Up() {
		t.Fatalf("%s: the disk was not dead", what)
	}
}
