package check

import (
	"slices"

	"duet/api"
)

// proc says the first error of a process that Shape has passed.
func (all heads) proc(p api.Proc, s scope) api.Errno {
	switch p.Kind {
	case api.Stop:
		return s.wantNoEnds()
	case api.PCase:
		return all.cases(p, s)
	case api.Spawn:
		return all.spawn(p, s)
	case api.If:
		return all.fork(p, s)
	case api.Call:
		return all.call(p, s)
	}
	next, e := behind(p, s)
	if e != api.OK {
		return e
	}
	return all.proc(p.Kids[0], next)
}

// behind is the scope of what comes next, of the kinds that have nothing else in Kids.
func behind(p api.Proc, s scope) (scope, api.Errno) {
	switch p.Kind {
	case api.Let:
		sort, e := s.sortOf(p.Expr)
		return s.withValue(p.Name, sort), e
	case api.Print:
		_, e := s.sortOf(p.Expr)
		return s, e
	}
	x, e := used(p, s)
	if e != api.OK {
		return s, e
	}
	return behindDoing(p, s, x)
}

// used is the end at which a process does something, if its type does that here.
func used(p api.Proc, s scope) (end, api.Errno) {
	x, has := s.ends[p.Chan]
	switch {
	case !has:
		return end{}, api.ErrName
	case x.here().Kind != doneBy(p.Kind):
		return end{}, api.ErrType
	}
	return x, api.OK
}

// doneBy a kind of processes is a kind of types.
func doneBy(kind int) int {
	switch kind {
	case api.PSend:
		return api.Send
	case api.PRecv:
		return api.Recv
	case api.PGive:
		return api.Give
	case api.PTake:
		return api.Take
	case api.PPick:
		return api.Pick
	case api.PCase:
		return api.Offer
	}
	return api.End
}

// behindDoing is the scope behind what is done at the end x, which is that of Chan.
func behindDoing(p api.Proc, s scope, x end) (scope, api.Errno) {
	switch p.Kind {
	case api.PSend:
		return s.withEnd(p.Chan, x.to(0)), s.wantSort(p.Expr, x.here().Sort)
	case api.PRecv:
		return s.withEnd(p.Chan, x.to(0)).withValue(p.Name, x.here().Sort), api.OK
	case api.PGive:
		return behindGive(p, s, x)
	case api.PTake:
		return behindTake(p, s, x)
	case api.PPick:
		k := slices.Index(x.here().Labels, p.Label)
		if k < 0 {
			return s, api.ErrType
		}
		return s.withEnd(p.Chan, x.to(k)), api.OK
	}
	return s.withoutEnd(p.Chan), api.OK
}

func behindGive(p api.Proc, s scope, x end) (scope, api.Errno) {
	if p.Name == p.Chan {
		return s, api.ErrName
	}
	given, rest, e := s.taken(p.Name)
	if e != api.OK {
		return s, e
	}
	return rest.withEnd(p.Chan, x.to(1)), given.fits(x.to(0))
}

func behindTake(p api.Proc, s scope, x end) (scope, api.Errno) {
	if s.hasEnd(p.Name) {
		return s, api.ErrName
	}
	return s.withEnd(p.Chan, x.to(1)).withEnd(p.Name, x.to(0)), api.OK
}

// cases goes by the type's labels: no other ones come in, so Kids of other ones are not looked at.
func (all heads) cases(p api.Proc, s scope) api.Errno {
	x, e := used(p, s)
	if e != api.OK {
		return e
	}
	for i, label := range x.here().Labels {
		k := slices.Index(p.Labels, label)
		if k < 0 {
			return api.ErrType
		}
		if e := all.proc(p.Kids[k], s.withEnd(p.Chan, x.to(i))); e != api.OK {
			return e
		}
	}
	return api.OK
}

func (all heads) spawn(p api.Proc, s scope) api.Errno {
	if s.hasEnd(p.Chan) {
		return api.ErrName
	}
	child := scope{values: s.values, sorts: s.sorts}
	for _, name := range p.Names {
		x, rest, e := s.taken(name)
		if e != api.OK {
			return e
		}
		child, s = child.withEnd(name, x), rest
	}
	its, e := endOf(p.Type)
	if e != api.OK {
		return e
	}
	if e := all.proc(p.Kids[0], child.withEnd(p.Chan, its)); e != api.OK {
		return e
	}
	other, e := otherEnd(p.Type)
	if e != api.OK {
		return e
	}
	return all.proc(p.Kids[1], s.withEnd(p.Chan, other))
}

func (all heads) fork(p api.Proc, s scope) api.Errno {
	if e := s.wantSort(p.Expr, api.Bool); e != api.OK {
		return e
	}
	for _, kid := range p.Kids {
		if e := all.proc(kid, s); e != api.OK {
			return e
		}
	}
	return api.OK
}

func (all heads) call(p api.Proc, s scope) api.Errno {
	called, known := all[p.Name]
	switch {
	case !known:
		return api.ErrName
	case len(p.Exprs) != len(called.sorts) || len(p.Names) != len(called.ends):
		return api.ErrArg
	}
	for i, x := range p.Exprs {
		if e := s.wantSort(x, called.sorts[i]); e != api.OK {
			return e
		}
	}
	for i, name := range p.Names {
		x, rest, e := s.taken(name)
		if e != api.OK {
			return e
		}
		if e := x.fits(called.ends[i]); e != api.OK {
			return e
		}
		s = rest
	}
	return s.wantNoEnds()
}
