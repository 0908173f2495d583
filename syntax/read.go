package syntax

import (
	"strings"

	"duet/api"
	"duet/exprs"
	"duet/pieces"
	"duet/types"
	"duet/words"
)

// Parse: P26.
func Parse(s string) (p api.Program, f api.Fault) {
	f = pieces.Read(s, " \n", 0, func(r *pieces.Reader) {
		whole := readProgram(r)
		if e := Shape(whole); e != api.OK {
			panic(api.Fault{Code: e, At: 0})
		}
		p = whole
	})
	return p, f
}

func readProgram(r *pieces.Reader) api.Program {
	p := api.Program{Defs: []api.Def{readDef(r)}}
	for r.Rest() != "" {
		p.Defs = append(p.Defs, readDef(r))
	}
	return p
}

func readDef(r *pieces.Reader) api.Def {
	r.Take(func(word string) bool { return word == "def" })
	d := api.Def{Name: r.Take(IsProc)}
	r.Need("(")
	if r.Word() != "" {
		readEach(r, func() {
			d.Values = append(d.Values, readNameOf(r))
			d.Sorts = append(d.Sorts, words.ReadSort(r))
		})
	}
	if r.Skip(";") {
		readEach(r, func() {
			d.Chans = append(d.Chans, readNameOf(r))
			d.Types = append(d.Types, begun(r, types.Begin))
		})
	}
	r.Need(")")
	r.Need("=")
	d.Body = readProc(r)
	return d
}

// readEach reads a list that has something in it.
func readEach(r *pieces.Reader, read func()) {
	read()
	for r.Skip(",") {
		read()
	}
}

func readName(r *pieces.Reader) string { return r.Take(exprs.IsName) }

// readNameOf reads a name, and passes what stands between it and what it is of.
func readNameOf(r *pieces.Reader) string {
	name := readName(r)
	r.Need(":")
	return name
}

// begun is what another package's Begin reads here. It tells faults by the bytes of the whole text.
func begun[T any](r *pieces.Reader, begin func(string, int) (T, int, api.Fault)) T {
	read, end, f := begin(r.Text(), r.At())
	if f.Code != api.OK {
		panic(f)
	}
	r.Pass(end - r.At())
	return read
}

func readExpr(r *pieces.Reader) api.Expr { return begun(r, exprs.Begin) }

func readProc(r *pieces.Reader) api.Proc {
	p := api.Proc{Kind: kindOf(r.Word())}
	if p.Kind == api.Call {
		return readCall(r)
	}
	r.Pass(len(keyword(p.Kind)))
	if fieldsOf(p.Kind).have(hasChan) {
		p.Chan = readName(r)
	}
	switch p.Kind {
	case api.Stop:
		return p
	case api.PCase:
		return readCase(r, p)
	case api.If:
		return readIf(r, p)
	}
	return readStep(r, p)
}

// readCall also stands where no process can: what is there is no name of one.
func readCall(r *pieces.Reader) api.Proc {
	p := api.Proc{Kind: api.Call, Name: r.Take(IsProc)}
	r.Need("(")
	if !strings.HasPrefix(r.Rest(), ";") && !strings.HasPrefix(r.Rest(), ")") {
		readEach(r, func() { p.Exprs = append(p.Exprs, readExpr(r)) })
	}
	if r.Skip(";") {
		readEach(r, func() { p.Names = append(p.Names, readName(r)) })
	}
	r.Need(")")
	return p
}

func readCase(r *pieces.Reader, p api.Proc) api.Proc {
	r.Need("{")
	readEach(r, func() {
		// More labels than a case may have are no fault of the text: Shape tells them.
		p.Labels = append(p.Labels, words.ReadLabel(r, p.Labels, words.Rise))
		r.Need(":")
		p.Kids = append(p.Kids, readProc(r))
	})
	r.Need("}")
	return p
}

func readIf(r *pieces.Reader, p api.Proc) api.Proc {
	p.Expr = readExpr(r)
	first := readBraced(r)
	r.Take(func(word string) bool { return word == "else" })
	p.Kids = []api.Proc{first, readBraced(r)}
	return p
}

func readBraced(r *pieces.Reader) api.Proc {
	r.Need("{")
	p := readProc(r)
	r.Need("}")
	return p
}

// readStep is for all kinds behind which one thing comes next.
func readStep(r *pieces.Reader, p api.Proc) api.Proc {
	switch p.Kind {
	case api.PSend, api.Print:
		p.Expr = readExpr(r)
	case api.PRecv, api.PGive, api.PTake:
		p.Name = readName(r)
	case api.PPick:
		p.Label = readName(r)
	case api.Spawn:
		p = readSpawn(r, p)
	case api.Let:
		p.Name = readName(r)
		r.Need("=")
		p.Expr = readExpr(r)
	}
	r.Need(";")
	p.Kids = append(p.Kids, readProc(r))
	return p
}

// readSpawn reads what stands between the end's name and what comes next.
func readSpawn(r *pieces.Reader, p api.Proc) api.Proc {
	r.Need(":")
	p.Type = begun(r, types.Begin)
	r.Need("(")
	if r.Word() != "" {
		readEach(r, func() { p.Names = append(p.Names, readName(r)) })
	}
	r.Need(")")
	p.Kids = []api.Proc{readBraced(r)}
	return p
}
