package monitor

import (
	"slices"

	"duet/api"
	"duet/below"
	"duet/graph"
	"duet/types"
	"duet/values"
)

// check says what is wrong with an event by itself. What its kind uses is looked at ahead of the rest, and taken away for that: of an event that is one nothing is left.
func check(x api.Event) api.Errno {
	e := api.OK
	switch x.Kind {
	case api.Send, api.Recv:
		e, x.Value = values.Check(x.Value), api.Value{}
	case api.Give, api.Take:
		e, x.Carry = types.Check(x.Carry), api.Type{}
	case api.Pick, api.Offer:
		x.Label = ""
	default:
		return api.ErrArg
	}
	if e == api.OK && !isBare(x) {
		return api.ErrArg
	}
	return e
}

// isBare says whether an event has nothing but a kind.
func isBare(x api.Event) bool {
	return x.Value == api.Value{} && isNoType(x.Carry) && x.Label == ""
}

// isNoType takes a list that is empty for none.
func isNoType(t api.Type) bool {
	return t.Kind == 0 && t.Sort == 0 && t.Name == "" && len(t.Labels) == 0 && len(t.Kids) == 0
}

// behind is the node behind an event, if it is fine here.
func (m *Monitor) behind(x api.Event) (node int, fine bool) {
	n := m.here()
	if n.Kind != x.Kind {
		return 0, false
	}
	switch x.Kind {
	case api.Send, api.Recv:
		return n.To[0], n.Sort == x.Value.Sort
	case api.Give, api.Take:
		return n.To[1], m.mayCarry(n.To[0], x.Carry)
	}
	k := slices.Index(n.Labels, x.Label)
	if k < 0 {
		return 0, false
	}
	return n.To[k], true
}

func (m *Monitor) mayCarry(node int, t api.Type) bool {
	carried, e := graph.Of(t)
	if e != api.OK {
		return false
	}
	ok, e := below.Nodes(carried, 0, m.nodes, node)
	return ok && e == api.OK
}

// doer of a kind: what goes out is done by this end, what comes in by the other one.
func doer(kind int) int {
	switch kind {
	case api.Send, api.Give, api.Pick:
		return thisEnd
	}
	return otherEnd
}
