package wires

import (
	"strings"

	"duet/api"
	"duet/exprs"
	"duet/types"
	"duet/values"
)

func writeEvent(out *strings.Builder, x api.Event) api.Errno {
	// The byte of a kind that is none is written, but never told.
	out.WriteByte(byte(x.Kind))
	switch x.Kind {
	case api.Send, api.Recv:
		return writeValue(out, x.Value)
	case api.Give, api.Take:
		return writeType(out, x.Carry)
	case api.Pick, api.Offer:
		return writeLabel(out, x.Label)
	}
	return api.ErrArg
}

func writeValue(out *strings.Builder, v api.Value) api.Errno {
	if e := values.Check(v); e != api.OK {
		return e
	}
	out.WriteByte(byte(v.Sort))
	switch v.Sort {
	case api.Int:
		writeNumber(out, unsigned(v.N))
	case api.Bool:
		out.WriteByte(byte(v.N))
	case api.Text:
		writeText(out, v.S)
	}
	return api.OK
}

func writeType(out *strings.Builder, t api.Type) api.Errno {
	s, e := types.Write(t)
	if e != api.OK {
		return e
	}
	writeText(out, s)
	return api.OK
}

func writeLabel(out *strings.Builder, label string) api.Errno {
	if !exprs.IsName(label) {
		return api.ErrArg
	}
	writeText(out, label)
	return api.OK
}

func writeText(out *strings.Builder, s string) {
	writeNumber(out, uint64(len(s)))
	out.WriteString(s)
}
