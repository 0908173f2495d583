package global

import (
	"strings"

	"duet/api"
	"duet/pieces"
	"duet/types"
	"duet/words"
)

// Write: P35.
func Write(g api.Global) (string, api.Errno) {
	if e := Check(g); e != api.OK {
		return "", e
	}
	var out strings.Builder
	write(&out, g)
	return out.String(), api.OK
}

// Parse: P35.
func Parse(s string) (g api.Global, f api.Fault) {
	f = pieces.Read(s, " ", 0, func(r *pieces.Reader) {
		whole := read(r)
		r.Finish()
		if e := Check(whole); e != api.OK {
			panic(api.Fault{Code: e, At: 0})
		}
		g = whole
	})
	return g, f
}

func write(out *strings.Builder, g api.Global) {
	switch g.Kind {
	case api.End:
		out.WriteString("end")
	case api.Var:
		out.WriteString(g.Name)
	case api.Rec:
		out.WriteString("rec " + g.Name + ".")
		write(out, g.Kids[0])
	case api.Send:
		out.WriteString(g.From + ">" + g.To + ":" + words.Sort(g.Sort) + ".")
		write(out, g.Kids[0])
	case api.Pick:
		out.WriteString(g.From + ">" + g.To)
		words.WriteChoice(out, g.Labels, g.Kids, write)
	}
}

func read(r *pieces.Reader) api.Global {
	switch r.Word() {
	case "end":
		r.Pass(len("end"))
		return api.Global{Kind: api.End}
	case "rec":
		r.Pass(len("rec"))
		name := r.Take(types.IsVar)
		r.Need(".")
		return api.Global{Kind: api.Rec, Name: name, Kids: []api.Global{read(r)}}
	}
	// A role may be a name of a Rec too: what comes next tells which of both it is here.
	word := r.Take(types.IsVar)
	if IsRole(word) && r.Skip(">") {
		return readSaid(r, word)
	}
	return api.Global{Kind: api.Var, Name: word}
}

// readSaid has passed the `>`.
func readSaid(r *pieces.Reader, from string) api.Global {
	to := r.Take(func(word string) bool { return areTwoRoles(from, word) })
	if r.Skip(":") {
		sort := words.ReadSort(r)
		r.Need(".")
		return api.Global{Kind: api.Send, From: from, To: to, Sort: sort, Kids: []api.Global{read(r)}}
	}
	labels, kids := words.ReadChoice(r, read)
	return api.Global{Kind: api.Pick, From: from, To: to, Labels: labels, Kids: kids}
}
