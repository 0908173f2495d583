package check

import (
	"maps"
	"slices"

	"duet/api"
	"duet/below"
	"duet/dual"
	"duet/exprs"
	"duet/graph"
)

// end of a channel: what its type does from the node at on is left to do there.
type end struct {
	nodes []api.Node
	at    int
}

// endOf a channel that nothing has been done at.
func endOf(t api.Type) (end, api.Errno) {
	nodes, e := graph.Of(t)
	return end{nodes: nodes}, e
}

// otherEnd of a channel that nothing has been done at.
func otherEnd(t api.Type) (end, api.Errno) {
	nodes, e := dual.Of(t)
	return end{nodes: nodes}, e
}

func (x end) here() api.Node { return x.nodes[x.at] }

// to is the end of what its type says in the k-th place behind what it does here.
func (x end) to(k int) end { return end{x.nodes, x.here().To[k]} }

// fits says ErrType of an end that may not be had by one who expects another one.
func (x end) fits(wanted end) api.Errno {
	ok, e := below.Nodes(x.nodes, x.at, wanted.nodes, wanted.at)
	if e == api.OK && !ok {
		return api.ErrType
	}
	return e
}

// scope is what a process has. Those that are made of it leave it as it is: both Kids of an If begin with the same one.
type scope struct {
	values []string // a later one hides those ahead
	sorts  []int
	ends   map[string]end
}

func (s scope) withValue(name string, sort int) scope {
	s.values, s.sorts = append(slices.Clip(s.values), name), append(slices.Clip(s.sorts), sort)
	return s
}

func (s scope) withEnd(name string, x end) scope {
	ends := map[string]end{}
	maps.Copy(ends, s.ends)
	ends[name] = x
	s.ends = ends
	return s
}

func (s scope) withoutEnd(name string) scope {
	s.ends = maps.Clone(s.ends)
	delete(s.ends, name)
	return s
}

func (s scope) hasEnd(name string) bool {
	_, has := s.ends[name]
	return has
}

// taken is an end by its name, and the scope without it.
func (s scope) taken(name string) (end, scope, api.Errno) {
	x, has := s.ends[name]
	if !has {
		return end{}, s, api.ErrName
	}
	return x, s.withoutEnd(name), api.OK
}

func (s scope) sortOf(x api.Expr) (int, api.Errno) { return exprs.Sort(x, s.values, s.sorts) }

// wantSort says ErrSort of an expression that is of another sort.
func (s scope) wantSort(x api.Expr, wanted int) api.Errno {
	sort, e := s.sortOf(x)
	if e == api.OK && sort != wanted {
		return api.ErrSort
	}
	return e
}

// wantNoEnds says ErrLinear where a process goes away, but has an end still.
func (s scope) wantNoEnds() api.Errno {
	if len(s.ends) > 0 {
		return api.ErrLinear
	}
	return api.OK
}
