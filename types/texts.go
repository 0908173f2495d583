package types

import (
	"strings"

	"duet/api"
	"duet/pieces"
	"duet/words"
)

// Write: P12.
func Write(t api.Type) (string, api.Errno) {
	if e := Check(t); e != api.OK {
		return "", e
	}
	var out strings.Builder
	write(&out, t)
	return out.String(), api.OK
}

// Parse: P12.
func Parse(s string) (t api.Type, f api.Fault) {
	f = pieces.Read(s, " ", 0, func(r *pieces.Reader) {
		whole := read(r)
		r.Finish()
		t = checked(whole)
	})
	return t, f
}

// Begin: P12.
func Begin(s string, at int) (t api.Type, end int, f api.Fault) {
	f = pieces.Read(s, " ", at, func(r *pieces.Reader) {
		t, end = checked(read(r)), r.At()
	})
	return t, end, f
}

func write(out *strings.Builder, t api.Type) {
	switch t.Kind {
	case api.End:
		out.WriteString("end")
	case api.Var:
		out.WriteString(t.Name)
	case api.Rec:
		out.WriteString("rec " + t.Name + ".")
		write(out, t.Kids[0])
	case api.Send, api.Recv:
		out.WriteString(words.Sign(t.Kind) + words.Sort(t.Sort) + ".")
		write(out, t.Kids[0])
	case api.Give, api.Take:
		out.WriteString(words.Sign(t.Kind) + "{")
		write(out, t.Kids[0])
		out.WriteString("}.")
		write(out, t.Kids[1])
	case api.Pick, api.Offer:
		out.WriteString(words.Sign(t.Kind))
		words.WriteChoice(out, t.Labels, t.Kids, write)
	}
}

// checked throws what is to be told when all has been read.
func checked(t api.Type) api.Type {
	if e := Check(t); e != api.OK {
		panic(api.Fault{Code: e, At: 0})
	}
	return t
}

func read(r *pieces.Reader) api.Type {
	switch {
	case r.Skip("!"):
		return readMessage(r, api.Send, api.Give)
	case r.Skip("?"):
		return readMessage(r, api.Recv, api.Take)
	case r.Skip("+"):
		return readChoice(r, api.Pick)
	case r.Skip("&"):
		return readChoice(r, api.Offer)
	}
	return readWord(r)
}

// readMessage has passed the sign: what comes next tells whether it is one of a value or of an end.
func readMessage(r *pieces.Reader, ofValue, ofEnd int) api.Type {
	if r.Skip("{") {
		carried := read(r)
		r.Need("}")
		r.Need(".")
		return api.Type{Kind: ofEnd, Kids: []api.Type{carried, read(r)}}
	}
	sort := words.ReadSort(r)
	r.Need(".")
	return api.Type{Kind: ofValue, Sort: sort, Kids: []api.Type{read(r)}}
}

func readChoice(r *pieces.Reader, kind int) api.Type {
	labels, kids := words.ReadChoice(r, read)
	return api.Type{Kind: kind, Labels: labels, Kids: kids}
}

func readWord(r *pieces.Reader) api.Type {
	switch r.Word() {
	case "end":
		r.Pass(len("end"))
		return api.Type{Kind: api.End}
	case "rec":
		r.Pass(len("rec"))
		name := r.Take(IsVar)
		r.Need(".")
		return api.Type{Kind: api.Rec, Name: name, Kids: []api.Type{read(r)}}
	}
	return api.Type{Kind: api.Var, Name: r.Take(IsVar)}
}
