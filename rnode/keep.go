package rnode

import (
	"math"

	"cohort/api"
	"cohort/view"
	"cohort/wal"
	"cohort/wire"
)

// maxRecords is how many records may stand on the disk when one more comes.
const maxRecords = 40

// keep lets the disk have what must be kept.
func (n *Node) keep() api.Errno {
	h := n.view.Hard()
	if e := n.write(h); e != api.OK {
		n.dead = true
		return api.ErrDead
	}
	n.kept, n.commit = h, n.view.Commit()
	return api.OK
}

// write brings the disk from what it has to what it must have.
func (n *Node) write(h api.Hard) api.Errno {
	if h.BaseIndex != n.kept.BaseIndex || n.log.Len() > maxRecords {
		return n.log.Reset(putBase(h), []string{putRecord(h, 0)})
	}
	same := alike(h.Log, n.kept.Log)
	if h.View == n.kept.View && h.Normal == n.kept.Normal && same == len(h.Log) && same == len(n.kept.Log) {
		return api.OK
	}
	return n.log.Add(putRecord(h, same))
}

// alike is how many entries from the front on are the same in both.
func alike(a, b []api.LogEntry) int {
	for i := range min(len(a), len(b)) {
		if a[i] != b[i] {
			return i
		}
	}
	return min(len(a), len(b))
}

// putBase is the bytes of a snapshot.
func putBase(h api.Hard) string {
	if h.BaseIndex == 0 && h.BaseView == 0 && h.Base == "" {
		return ""
	}
	w := wire.NewWriter()
	w.Count(h.BaseIndex)
	w.Count(h.BaseView)
	w.Text(h.Base)
	return w.All()
}

// putRecord is the bytes of a record of all entries but the first so many.
func putRecord(h api.Hard, same int) string {
	w := wire.NewWriter()
	w.Count(h.View)
	w.Count(h.Normal)
	w.Count(h.BaseIndex + same)
	w.Count(len(h.Log) - same)
	for _, e := range h.Log[same:] {
		view.PutEntry(w, e)
	}
	return w.All()
}

// readBack is what a disk has.
func readBack(log *wal.Log) (api.Hard, bool) {
	h, ok := takeBase(log.Snap())
	for _, s := range log.All() {
		if !ok {
			break
		}
		h, ok = takeRecord(h, s)
	}
	return h, ok
}

// takeBase is a master with a snapshot and no more.
func takeBase(s string) (api.Hard, bool) {
	if s == "" {
		return api.Hard{}, true
	}
	r := wire.NewReader(s)
	h := api.Hard{BaseIndex: r.Count(most), BaseView: r.Count(most), Base: r.Text()}
	return h, r.End() == api.OK
}

// takeRecord is what a master has behind one record more.
func takeRecord(h api.Hard, s string) (api.Hard, bool) {
	r := wire.NewReader(s)
	h.View, h.Normal = r.Count(most), r.Count(most)
	// Entries may stand behind a snapshot of the greatest index, so only what is there bounds it.
	from := r.Count(math.MaxInt)
	if from < h.BaseIndex || from > h.BaseIndex+len(h.Log) {
		return api.Hard{}, false
	}
	h.Log = h.Log[:from-h.BaseIndex]
	for range r.Count(api.MaxEntries) {
		h.Log = append(h.Log, view.TakeEntry(r))
	}
	return h, r.End() == api.OK
}
