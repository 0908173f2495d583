// Package parts: how types are gone through, and what else is made of parts of which some are Recs and Vars. It has no promises of its own: the packages of such things share it.
package parts

import (
	"slices"

	"duet/api"
)

// Check goes through a thing, what stands outermost first, then its Kids in order. (is says whether a part has just what its kind has, and does not look into Kids; look is a part's kind, its name and its Kids.)
func Check[T any](whole T, is func(T) bool, look func(T) (int, string, []T)) api.Errno {
	c := checking[T]{is: is, look: look}
	return c.check(whole, nil)
}

type checking[T any] struct {
	is    func(T) bool
	look  func(T) (int, string, []T)
	parts int
}

// check counts ahead of all else: a thing that never ends is given up at the 61st part.
func (c *checking[T]) check(t T, around []string) api.Errno {
	c.parts++
	kind, name, kids := c.look(t)
	switch {
	case c.parts > api.MaxParts:
		return api.ErrLarge
	case !c.is(t):
		return api.ErrArg
	case kind == api.Var && !slices.Contains(around, name):
		return api.ErrName
	case kind == api.Rec && c.isIdle(t):
		return api.ErrType
	case kind == api.Rec:
		around = append(slices.Clip(around), name)
	}
	for _, kid := range kids {
		if e := c.check(kid, around); e != api.OK {
			return e
		}
	}
	return api.OK
}

// isIdle says whether nothing but Recs stands ahead of a Var.
func (c *checking[T]) isIdle(t T) bool {
	kind, _, kids := c.look(t)
	// No more than 2^16 parts are nested in one another, but in a Rec that is its own body.
	for range 1 << 16 {
		if kind != api.Rec || len(kids) != 1 {
			break
		}
		kind, _, kids = c.look(kids[0])
	}
	return kind == api.Var
}
