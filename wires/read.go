package wires

import (
	"strings"

	"duet/api"
	"duet/exprs"
	"duet/types"
	"duet/values"
)

// reader of bytes: at is the first one that has not been read yet. What can't be is thrown as a fault.
type reader struct {
	bytes string
	at    int
}

func cannotBe(at int) api.Fault { return api.Fault{Code: api.ErrSyntax, At: at} }

func (r *reader) events() []api.Event {
	var l []api.Event
	for r.at < len(r.bytes) {
		// Whatever that byte is: ErrLarge goes ahead of ErrSyntax.
		if len(l) == mostEvents {
			panic(api.Fault{Code: api.ErrLarge, At: r.at})
		}
		l = append(l, r.event())
	}
	return l
}

func (r *reader) event() api.Event {
	x := api.Event{Kind: r.within(api.Send, api.Offer)}
	switch x.Kind {
	case api.Send, api.Recv:
		x.Value = r.value()
	case api.Give, api.Take:
		x.Carry = readText(r, asType)
	case api.Pick, api.Offer:
		x.Label = readText(r, asLabel)
	}
	return x
}

func (r *reader) value() api.Value {
	switch r.within(api.Int, api.Text) {
	case api.Int:
		return api.Value{Sort: api.Int, N: signed(r.number())}
	case api.Bool:
		return api.Value{Sort: api.Bool, N: int64(r.within(0, 1))}
	}
	return readText(r, asValue)
}

func (r *reader) next() byte {
	if r.at == len(r.bytes) {
		panic(cannotBe(r.at))
	}
	b := r.bytes[r.at]
	r.at++
	return b
}

// within is the next byte, if it is from least to most.
func (r *reader) within(least, most int) int {
	at := r.at
	b := int(r.next())
	if b < least || b > most {
		panic(cannotBe(at))
	}
	return b
}

// readText is what a text is read as; whatever is wrong with it is the fault of its number. as is handed a copy, which it may keep.
func readText[T any](r *reader, as func(string) (T, bool)) T {
	first := r.at
	size := r.number()
	rest := r.bytes[r.at:]
	if size > uint64(len(rest)) {
		panic(cannotBe(first))
	}
	x, ok := as(strings.Clone(rest[:size]))
	if !ok {
		panic(cannotBe(first))
	}
	r.at += int(size)
	return x
}

func asValue(s string) (api.Value, bool) {
	v := api.Value{Sort: api.Text, S: s}
	return v, values.Check(v) == api.OK
}

// asType holds the type against its text: types.Parse also takes blanks, which are never written.
func asType(s string) (api.Type, bool) {
	t, f := types.Parse(s)
	if f.Code != api.OK {
		return api.Type{}, false
	}
	written, e := types.Write(t)
	return t, e == api.OK && written == s
}

func asLabel(s string) (string, bool) { return s, exprs.IsName(s) }
