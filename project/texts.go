package project

import (
	"strings"

	"duet/api"
	"duet/words"
)

// Write: P37.
func Write(l api.Local) (string, api.Errno) {
	if e := Check(l); e != api.OK {
		return "", e
	}
	var out strings.Builder
	write(&out, l)
	return out.String(), api.OK
}

func write(out *strings.Builder, l api.Local) {
	switch l.Kind {
	case api.End:
		out.WriteString("end")
	case api.Var:
		out.WriteString(l.Name)
	case api.Rec:
		out.WriteString("rec " + l.Name + ".")
		write(out, l.Kids[0])
	case api.Send, api.Recv:
		out.WriteString(l.With + words.Sign(l.Kind) + words.Sort(l.Sort) + ".")
		write(out, l.Kids[0])
	case api.Pick, api.Offer:
		out.WriteString(l.With + words.Sign(l.Kind))
		words.WriteChoice(out, l.Labels, l.Kids, write)
	}
}
