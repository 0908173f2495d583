package graph

import (
	"slices"

	"duet/api"
)

// meaning of a Rec's name: the node that its body begins with.
type meaning struct {
	name string
	node int
}

// laid has a node for each part of a type that is no Rec and no Var. (Its labels are those of the type, not copies.)
func laid(t api.Type) []api.Node {
	var g []api.Node
	lay(&g, t, nil)
	return g
}

// lay answers the number of the node that does what t does.
func lay(g *[]api.Node, t api.Type, around []meaning) int {
	switch t.Kind {
	case api.Var:
		return meant(t.Name, around)
	case api.Rec:
		// Behind a Rec, and other Recs, stands no Var: the next node that is laid is that which it means.
		return lay(g, t.Kids[0], append(slices.Clip(around), meaning{t.Name, len(*g)}))
	}
	number, to := len(*g), make([]int, len(t.Kids))
	*g = append(*g, api.Node{Kind: t.Kind, Sort: t.Sort, Labels: t.Labels, To: to})
	for i, kid := range t.Kids {
		to[i] = lay(g, kid, around)
	}
	return number
}

// meant is the node of the innermost Rec of that name.
func meant(name string, around []meaning) int {
	node := 0
	for _, m := range around {
		if m.name == name {
			node = m.node
		}
	}
	return node
}
