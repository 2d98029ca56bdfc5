package graph

import (
	"cohort/api"
	"cohort/wire"
)

// PutVertex puts a vertex.
func PutVertex(w *wire.Writer, v api.Vertex) {
	w.Signed(v.ID)
	w.Signed(v.Value)
	w.Count(len(v.Edges))
	for _, e := range v.Edges {
		w.Signed(e.To)
		w.Signed(e.Weight)
	}
}

// TakeVertex takes a vertex; if the reader comes to an error, it is what was taken by then, of edges the whole ones.
func TakeVertex(r *wire.Reader) api.Vertex {
	v := api.Vertex{ID: r.Signed(), Value: r.Signed()}
	for range r.Count(api.MaxEdges) {
		e := api.Edge{To: r.Signed(), Weight: r.Signed()}
		if r.Err() != api.OK {
			break
		}
		v.Edges = append(v.Edges, e)
	}
	return v
}

// Put puts a graph.
func Put(w *wire.Writer, g api.Graph) {
	w.Count(len(g.Vertices))
	for _, v := range g.Vertices {
		PutVertex(w, v)
	}
}

// Take takes a graph; one that may not be is an error of the reader.
func Take(r *wire.Reader) api.Graph {
	g := api.Graph{}
	for range r.Count(api.MaxVertices) {
		v := TakeVertex(r)
		if r.Err() != api.OK {
			return api.Graph{}
		}
		g.Vertices = append(g.Vertices, v)
	}
	r.Fail(Check(g))
	if r.Err() != api.OK {
		return api.Graph{}
	}
	return g
}

// Encode is a graph's bytes.
func Encode(g api.Graph) (string, api.Errno) {
	if e := Check(g); e != api.OK {
		return "", e
	}
	w := wire.NewWriter()
	Put(w, g)
	return w.All(), api.OK
}

// Decode is the graph of bytes.
func Decode(s string) (api.Graph, api.Errno) {
	r := wire.NewReader(s)
	g := Take(r)
	if e := r.End(); e != api.OK {
		return api.Graph{}, e
	}
	return g, api.OK
}
