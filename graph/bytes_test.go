package graph_test

import (
	"math"
	"testing"

	"cohort/api"
	"cohort/graph"
	"cohort/wire"
)

// put is a graph's bytes, whether it may be or not, by numbers one behind the other.
func put(g api.Graph) string {
	s := wire.Number(uint64(len(g.Vertices)))
	for _, v := range g.Vertices {
		s += putVertex(v)
	}
	return s
}

func putVertex(v api.Vertex) string {
	s := signed(v.ID) + signed(v.Value) + wire.Number(uint64(len(v.Edges)))
	for _, e := range v.Edges {
		s += signed(e.To) + signed(e.Weight)
	}
	return s
}

func signed(n int64) string { return wire.Number(wire.Fold(n)) }

// countsTooMany tells whether a reader refuses a graph's bytes at a count, ahead of Check.
func countsTooMany(g api.Graph) bool {
	for _, v := range g.Vertices {
		if len(v.Edges) > api.MaxEdges {
			return true
		}
	}
	return len(g.Vertices) > api.MaxVertices
}

func refuse(t *testing.T, name, s string, want api.Errno) {
	t.Helper()
	g, e := graph.Decode(s)
	if e != want || len(g.Vertices) != 0 {
		t.Errorf("%s: %d vertices, error %d, not error %d", name, len(g.Vertices), e, want)
	}
}

// Promise 3.1.
func TestEncode(t *testing.T) {
	for _, x := range []struct {
		g    api.Graph
		want string
	}{
		{of(), "\x00"},
		{of(api.Vertex{}), "\x01\x00\x00\x00"},
		{of(api.Vertex{ID: -1, Edges: []api.Edge{{To: 2, Weight: 5}}}, api.Vertex{ID: 2}), "\x02\x01\x00\x01\x04\x0a\x04\x00\x00"},
		{of(api.Vertex{ID: 1, Value: -3, Edges: []api.Edge{{To: 1, Weight: 150}, {To: 64, Weight: -1}}}, api.Vertex{ID: 64, Value: 7}),
			"\x02\x02\x05\x02\x02\xac\x02\x80\x01\x01\x80\x01\x0e\x00"},
	} {
		if s, e := graph.Encode(x.g); s != x.want || e != api.OK {
			t.Errorf("%v is %q with error %d, not %q", x.g, s, e, x.want)
		}
	}
	for _, x := range good() {
		before := deep(x.g)
		if s, e := graph.Encode(x.g); s != put(x.g) || e != api.OK {
			t.Errorf("%s: other bytes, error %d", x.name, e)
		}
		unchanged(t, x.name, x.g, before)
	}
	for _, x := range bad() {
		before := deep(x.g)
		if s, e := graph.Encode(x.g); s != "" || e != x.err {
			t.Errorf("%s: %d bytes, error %d, not %d", x.name, len(s), e, x.err)
		}
		unchanged(t, x.name, x.g, before)
	}
}

// Promise 3.1.
func TestThereAndBack(t *testing.T) {
	for _, x := range good() {
		s, e := graph.Encode(x.g)
		g, f := graph.Decode(s)
		if e != api.OK || f != api.OK || !equal(g, x.g) || !graph.Same(g, x.g) {
			t.Errorf("%s: errors %d, %d, or another graph", x.name, e, f)
		}
		again, _ := graph.Encode(g)
		if again != s {
			t.Errorf("%s: other bytes the second time", x.name)
		}
		// What was told is the caller's own.
		spoil(g)
		if h, f := graph.Decode(s); f != api.OK || !equal(h, x.g) {
			t.Errorf("%s: another graph the second time, error %d", x.name, f)
		}
	}
}

// Promise 3.1.
func TestDecodeCut(t *testing.T) {
	for _, x := range good() {
		s := put(x.g)
		for n := range len(s) {
			refuse(t, x.name, s[:n], api.ErrCut)
		}
	}
	// What the reader tells comes ahead of Check's, which is told behind the last vertex alone.
	for _, x := range bad() {
		if countsTooMany(x.g) {
			continue
		}
		s := put(x.g)
		for n := range len(s) {
			refuse(t, x.name, s[:n], api.ErrCut)
		}
	}
}

// Promise 3.1.
func TestDecodeTooMany(t *testing.T) {
	vertex := signed(1) + signed(0)
	for _, x := range []struct {
		name, s string
		want    api.Errno
	}{
		{"all vertices, and none there", wire.Number(api.MaxVertices), api.ErrCut},
		{"a vertex too many", wire.Number(api.MaxVertices + 1), api.ErrMore},
		{"a vertex too many, and all are there", put(full(api.MaxVertices+1, 0)), api.ErrMore},
		{"far too many", wire.Number(1 << 40), api.ErrMore},
		{"2^63", wire.Number(1 << 63), api.ErrMore},
		{"the most", wire.Number(math.MaxUint64), api.ErrMore},
		{"all edges, and none there", "\x01" + vertex + wire.Number(api.MaxEdges), api.ErrCut},
		{"an edge too many", "\x01" + vertex + wire.Number(api.MaxEdges+1), api.ErrMore},
		{"an edge too many, and all are there", put(oneOfTooMany()), api.ErrMore},
		{"far too many edges", "\x01" + vertex + wire.Number(1<<40), api.ErrMore},
		{"2^63 edges", "\x01" + vertex + wire.Number(1<<63), api.ErrMore},
		{"the most edges", "\x01" + vertex + wire.Number(math.MaxUint64), api.ErrMore},
		{"an edge too many at the second vertex", "\x02" + vertex + "\x00" + signed(2) + signed(0) + wire.Number(api.MaxEdges+1), api.ErrMore},
		// Check's errors come behind the last vertex alone.
		{"an edge too many, behind a vertex twice", "\x03" + vertex + "\x00" + vertex + "\x00" + vertex + wire.Number(api.MaxEdges+1), api.ErrMore},
		// Each vertex's edges may be, all of them together may not.
		{"an edge too many in all", put(tooManyEdges()), api.ErrEdge},
	} {
		refuse(t, x.name, x.s, x.want)
	}
	many := make([]api.Edge, api.MaxEdges)
	refuse(t, "all edges at one, to one end", put(of(api.Vertex{Edges: many})), api.ErrEdge)
	refuse(t, "all edges at each of two", put(of(api.Vertex{Edges: many}, api.Vertex{ID: 1, Edges: many})), api.ErrEdge)
}

// Promise 3.1.
func TestDecodeForm(t *testing.T) {
	g := of(api.Vertex{ID: 1, Value: 2, Edges: []api.Edge{{To: 1, Weight: 3}}})
	s := put(g)
	if len(s) != 6 {
		t.Fatalf("%q has not one byte a number", s)
	}
	for i := range len(s) {
		// The same number in a longer form, and bytes that are none.
		refuse(t, "a longer form", s[:i]+string([]byte{s[i] | 128, 0})+s[i+1:], api.ErrForm)
		refuse(t, "no number", s[:i]+"\xff\xff\xff\xff\xff\xff\xff\xff\xff\x02"+s[i+1:], api.ErrForm)
	}
}

// Promise 3.1.
func TestDecodeLeft(t *testing.T) {
	for _, x := range good() {
		for _, behind := range []string{"\x00", "\xff", "more", put(x.g)} {
			refuse(t, x.name, put(x.g)+behind, api.ErrMore)
		}
	}
}

// Promise 3.1: Check's error, also where bytes are left.
func TestDecodeRefused(t *testing.T) {
	for _, x := range bad() {
		want := x.err
		if countsTooMany(x.g) {
			want = api.ErrMore
		}
		refuse(t, x.name, put(x.g), want)
		refuse(t, x.name+", and bytes left", put(x.g)+"\x00", want)
		refuse(t, x.name+", and bytes left that are no number", put(x.g)+"\xff", want)
	}
}

// Promise 3.1: any bytes are the bytes of the graph that they tell, or none.
func TestDecodeAny(t *testing.T) {
	told := 0
	bytes := []byte{0, 1, 2, 3, 128}
	var grow func(s []byte)
	grow = func(s []byte) {
		g, e := graph.Decode(string(s))
		if e == api.OK {
			told++
			if again, f := graph.Encode(g); again != string(s) || f != api.OK {
				t.Fatalf("%q is told as %v, which is %q, error %d", s, g, again, f)
			}
		} else if len(g.Vertices) != 0 {
			t.Fatalf("%q: error %d beside a graph", s, e)
		}
		if len(s) < 7 {
			for _, b := range bytes {
				grow(append(s[:len(s):len(s)], b))
			}
		}
	}
	grow(nil)
	if told < 100 {
		t.Errorf("%d graphs alone", told)
	}
}

// Promise 3.1.
func TestPutVertex(t *testing.T) {
	for _, x := range append(good(), bad()...) {
		before := deep(x.g)
		w := wire.NewWriter()
		w.Text("ahead")
		want := w.All()
		for _, v := range x.g.Vertices {
			graph.PutVertex(w, v)
			want += putVertex(v)
		}
		w.Text("behind")
		if w.All() != want+"\x06behind" {
			t.Errorf("%s: other bytes", x.name)
		}
		unchanged(t, x.name, x.g, before)
	}
	graph.PutVertex(nil, to(1, 1))
}

// Promise 3.1: a vertex is taken as it stands; whether its edges may be is a graph's matter.
func TestTakeVertex(t *testing.T) {
	for _, x := range append(good(), bad()...) {
		if countsTooMany(x.g) {
			continue
		}
		s := "\x05ahead"
		for _, v := range x.g.Vertices {
			s += putVertex(v)
		}
		r := wire.NewReader(s + "\x06behind")
		r.Text()
		for i, v := range x.g.Vertices {
			if got := graph.TakeVertex(r); !equalVertex(got, v) || r.Err() != api.OK {
				t.Errorf("%s: vertex %d is taken as another one, error %d", x.name, i, r.Err())
			}
		}
		if behind := r.Text(); behind != "behind" || r.End() != api.OK {
			t.Errorf("%s: behind it %q, error %d", x.name, behind, r.Err())
		}
	}
}

// Promise 3.1: how many edges one vertex may have.
func TestTakeVertexTooMany(t *testing.T) {
	v := api.Vertex{ID: 3, Value: 4, Edges: make([]api.Edge, api.MaxEdges)}
	r := wire.NewReader(putVertex(v))
	if got := graph.TakeVertex(r); !equalVertex(got, v) || r.End() != api.OK {
		t.Errorf("%d edges, error %d", len(got.Edges), r.Err())
	}
	v.Edges = append(v.Edges, api.Edge{})
	r = wire.NewReader(putVertex(v))
	if got := graph.TakeVertex(r); !equalVertex(got, api.Vertex{ID: 3, Value: 4}) || r.Err() != api.ErrMore {
		t.Errorf("%d edges, error %d", len(got.Edges), r.Err())
	}
}

// Promise 3.1: edges up to the first error.
func TestTakeVertexCut(t *testing.T) {
	v := api.Vertex{ID: 300, Value: -300, Edges: []api.Edge{{To: 1, Weight: 2}, {To: 3, Weight: 4}, {To: 5, Weight: 6}}}
	s := putVertex(v)
	if len(s) != 2+2+1+6 {
		t.Fatalf("%q is of %d bytes", s, len(s))
	}
	for n := range len(s) {
		want := api.Vertex{}
		if n >= 2 {
			want.ID = v.ID
		}
		if n >= 4 {
			want.Value = v.Value
		}
		if n >= 5 {
			want.Edges = v.Edges[:(n-5)/2]
		}
		r := wire.NewReader(s[:n])
		if got := graph.TakeVertex(r); !equalVertex(got, want) || r.Err() != api.ErrCut {
			t.Errorf("cut at %d: %v, error %d", n, got, r.Err())
		}
		// The same bytes, and then some that are no number.
		r = wire.NewReader(s[:n] + "\xff\xff\xff\xff\xff\xff\xff\xff\xff\xff\xff")
		if got := graph.TakeVertex(r); !equalVertex(got, want) || r.Err() != api.ErrForm {
			t.Errorf("no number at %d: %v, error %d", n, got, r.Err())
		}
	}
}

// failed is a reader that has an error already, with bytes left.
func failed(s string, e api.Errno) *wire.Reader {
	r := wire.NewReader("\x07" + s)
	r.Number()
	r.Fail(e)
	return r
}

// Promise 3.1.
func TestTakeOffFailed(t *testing.T) {
	for _, e := range []api.Errno{api.ErrCut, api.ErrForm, api.ErrNone} {
		for _, x := range append(good(), bad()...) {
			r := failed(put(x.g), e)
			if g := graph.Take(r); len(g.Vertices) != 0 || r.Err() != e || r.At() != 1 {
				t.Errorf("%s: %d vertices off a reader with error %d, which has now %d, at %d", x.name, len(g.Vertices), e, r.Err(), r.At())
			}
			for _, v := range x.g.Vertices {
				r = failed(putVertex(v), e)
				if got := graph.TakeVertex(r); !equalVertex(got, api.Vertex{}) || r.Err() != e || r.At() != 1 {
					t.Fatalf("%s: %v off a reader with error %d, which has now %d, at %d", x.name, got, e, r.Err(), r.At())
				}
			}
		}
	}
	if v := graph.TakeVertex(nil); !equalVertex(v, api.Vertex{}) {
		t.Errorf("off a nil reader: %v", v)
	}
	if g := graph.Take(nil); len(g.Vertices) != 0 {
		t.Errorf("off a nil reader: %v", g)
	}
}

// Promise 3.1: Put tells no error, and puts what it is given.
func TestPut(t *testing.T) {
	for _, x := range append(good(), bad()...) {
		before := deep(x.g)
		w := wire.NewWriter()
		w.Text("ahead")
		graph.Put(w, x.g)
		w.Text("behind")
		if w.All() != "\x05ahead"+put(x.g)+"\x06behind" {
			t.Errorf("%s: other bytes", x.name)
		}
		unchanged(t, x.name, x.g, before)
	}
	graph.Put(nil, full(3, 3))
}

// Promise 3.1: a graph off a reader, of which something is left.
func TestTake(t *testing.T) {
	for _, x := range good() {
		r := wire.NewReader("\x05ahead" + put(x.g) + put(x.g) + "\x06behind")
		r.Text()
		first, second, behind := graph.Take(r), graph.Take(r), r.Text()
		if !equal(first, x.g) || !equal(second, x.g) || behind != "behind" || r.End() != api.OK {
			t.Errorf("%s: it is taken as another one, error %d", x.name, r.Err())
		}
		spoil(first)
		if !equal(second, x.g) {
			t.Errorf("%s: the second one shares something with the first", x.name)
		}
	}
}

// Promise 3.1: Check's error is the reader's behind the last vertex.
func TestTakeRefused(t *testing.T) {
	for _, x := range bad() {
		s := put(x.g)
		r := wire.NewReader(s + "\x06behind")
		g := graph.Take(r)
		want := x.err
		if countsTooMany(x.g) {
			want = api.ErrMore
		} else if r.At() != len(s) {
			t.Errorf("%s: the error comes at %d, not behind all %d bytes", x.name, r.At(), len(s))
		}
		if len(g.Vertices) != 0 || r.Err() != want {
			t.Errorf("%s: %d vertices, error %d, not %d", x.name, len(g.Vertices), r.Err(), want)
		}
		if behind := r.Text(); behind != "" {
			t.Errorf("%s: %q is taken behind the error", x.name, behind)
		}
	}
}

// Promise 3.1: with an error there is no graph, wherever it is.
func TestTakeCut(t *testing.T) {
	s := put(of(to(1, 1, 2), to(2, 1), to(3, 1, 2, 3)))
	for n := range len(s) {
		r := wire.NewReader(s[:n])
		if g := graph.Take(r); len(g.Vertices) != 0 || r.Err() != api.ErrCut {
			t.Errorf("cut at %d: %v, error %d", n, g, r.Err())
		}
	}
}
