package project

import (
	"slices"
	"strings"

	"duet/api"
)

// Merge: P39.
func Merge(a, b api.Local) (api.Local, api.Errno) {
	if e := Check(a); e != api.OK {
		return api.Local{}, e
	}
	if e := Check(b); e != api.OK {
		return api.Local{}, e
	}
	return merged(a, b)
}

// merged is in new memory, whatever comes of it.
func merged(a, b api.Local) (api.Local, api.Errno) {
	switch {
	case a.Kind != b.Kind || a.With != b.With || a.Sort != b.Sort || a.Name != b.Name:
		return api.Local{}, api.ErrNone
	case a.Kind == api.Offer:
		return mergedOffers(a, b)
	case !slices.Equal(a.Labels, b.Labels):
		return api.Local{}, api.ErrNone
	}
	both := bare(a)
	for i := range a.Kids {
		kid, e := merged(a.Kids[i], b.Kids[i])
		if e != api.OK {
			return api.Local{}, e
		}
		both.Kids = append(both.Kids, kid)
	}
	return both, api.OK
}

// mergedOffers are with the same role.
func mergedOffers(a, b api.Local) (api.Local, api.Errno) {
	both := bare(a)
	both.Labels = either(a.Labels, b.Labels)
	if len(both.Labels) > api.MaxLabels {
		return api.Local{}, api.ErrNone
	}
	for _, label := range both.Labels {
		kid, e := mergedAll(slices.Concat(kidsAt(a, label), kidsAt(b, label)))
		if e != api.OK {
			return api.Local{}, e
		}
		both.Kids = append(both.Kids, kid)
	}
	return both, api.OK
}

// mergedAll is of at least one.
func mergedAll(list []api.Local) (api.Local, api.Errno) {
	whole := copied(list[0])
	for _, l := range list[1:] {
		var e api.Errno
		if whole, e = merged(whole, l); e != api.OK {
			return api.Local{}, e
		}
	}
	return whole, api.OK
}

// kidsAt a label is one of them, or none.
func kidsAt(l api.Local, label string) []api.Local {
	if i := slices.Index(l.Labels, label); i >= 0 {
		return l.Kids[i : i+1]
	}
	return nil
}

// either has the labels of both lists, rising.
func either(a, b []string) []string {
	all := copiedLabels(slices.Concat(a, b))
	slices.Sort(all)
	return slices.Compact(all)
}

// bare is what stands in a part itself, without its Kids.
func bare(l api.Local) api.Local {
	return api.Local{Kind: l.Kind, With: strings.Clone(l.With), Sort: l.Sort, Name: strings.Clone(l.Name), Labels: copiedLabels(l.Labels)}
}

func copied(l api.Local) api.Local {
	whole := bare(l)
	for _, kid := range l.Kids {
		whole.Kids = append(whole.Kids, copied(kid))
	}
	return whole
}

func copiedLabels(labels []string) []string {
	var out []string
	for _, label := range labels {
		out = append(out, strings.Clone(label))
	}
	return out
}
