package wire

// Writer puts things behind one another.
type Writer struct {
	b []byte
}

// NewWriter is a writer with nothing.
func NewWriter() *Writer {
	return &Writer{}
}

// Bytes puts bytes as they are.
func (w *Writer) Bytes(s string) {
	if w == nil {
		return
	}
	w.b = append(w.b, s...)
}

// Number puts a number.
func (w *Writer) Number(n uint64) {
	if w == nil {
		return
	}
	w.b = appendNumber(w.b, n)
}

// Signed puts a signed number.
func (w *Writer) Signed(n int64) {
	w.Number(Fold(n))
}

// Count puts a number that counts things; one below 0 is put as 0.
func (w *Writer) Count(n int) {
	w.Number(uint64(max(n, 0)))
}

// Text puts a text.
func (w *Writer) Text(s string) {
	w.Count(len(s))
	w.Bytes(s)
}

// Bool puts yes or no.
func (w *Writer) Bool(b bool) {
	if b {
		w.Number(1)
	} else {
		w.Number(0)
	}
}

// Len is how many bytes there are.
func (w *Writer) Len() int {
	if w == nil {
		return 0
	}
	return len(w.b)
}

// All is all bytes.
func (w *Writer) All() string {
	if w == nil {
		return ""
	}
	return string(w.b)
}
