package graph

import "duet/api"

// letters of which names are made.
const letters = 26

// way from node 0 to where a type is made just now.
type way struct {
	graph  []api.Node
	passed []bool // the nodes that it has come through
	met    []bool // those of them that it has come back to
	parts  int    // made so far
}

// typeFrom makes no more parts when there are too many: a graph of few nodes may lead to more than could be held.
func (w *way) typeFrom(node int) api.Type {
	w.parts++
	if w.parts > api.MaxParts {
		return api.Type{}
	}
	if w.passed[node] {
		w.met[node] = true
		return api.Type{Kind: api.Var, Name: nodeName(node)}
	}
	w.passed[node], w.met[node] = true, false
	n := w.graph[node]
	t := api.Type{Kind: n.Kind, Sort: n.Sort, Labels: copied(n.Labels)}
	for _, to := range n.To {
		t.Kids = append(t.Kids, w.typeFrom(to))
	}
	w.passed[node] = false
	if !w.met[node] {
		return t
	}
	w.parts++
	return api.Type{Kind: api.Rec, Name: nodeName(node), Kids: []api.Type{t}}
}

func nodeName(node int) string {
	last := byte('a' + node%letters)
	if node < letters {
		return string([]byte{last})
	}
	return string([]byte{byte('a' + node/letters - 1), last})
}
