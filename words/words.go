// Package words: sorts and labels as words of texts, and the signs ahead of them. It has no promises of its own: the packages whose texts have such words share it.
package words

import (
	"slices"
	"strings"

	"duet/api"
	"duet/exprs"
	"duet/pieces"
)

// Sort is how a sort is written; the empty text of what is none.
func Sort(sort int) string {
	switch sort {
	case api.Int:
		return "int"
	case api.Bool:
		return "bool"
	case api.Text:
		return "text"
	}
	return ""
}

// Sign is that with which what goes out, or comes in, is written; the empty text of other kinds.
func Sign(kind int) string {
	switch kind {
	case api.Send, api.Give:
		return "!"
	case api.Recv, api.Take:
		return "?"
	case api.Pick:
		return "+"
	case api.Offer:
		return "&"
	}
	return ""
}

// ReadSort throws a fault where no sort stands.
func ReadSort(r *pieces.Reader) int {
	for _, sort := range [...]int{api.Int, api.Bool, api.Text} {
		if word := r.Word(); word == Sort(sort) {
			r.Pass(len(word))
			return sort
		}
	}
	panic(r.Fault(api.ErrSyntax))
}

// AreLabels says whether these are labels of one choice: 1 to 6 names, rising.
func AreLabels(labels []string) bool {
	return 1 <= len(labels) && len(labels) <= api.MaxLabels && Rise(labels)
}

// Rise says whether these are names, each above the one ahead, however many they are.
func Rise(labels []string) bool {
	for i, label := range labels {
		if !exprs.IsName(label) || i > 0 && label <= labels[i-1] {
			return false
		}
	}
	return true
}

// ReadLabel throws a fault where no label stands with which those ahead are still what they may be.
func ReadLabel(r *pieces.Reader, ahead []string, may func([]string) bool) string {
	return r.Take(func(label string) bool { return may(append(slices.Clone(ahead), label)) })
}

// WriteChoice writes labels, each with what comes next behind it.
func WriteChoice[T any](out *strings.Builder, labels []string, kids []T, write func(*strings.Builder, T)) {
	between := "{"
	for i, label := range labels {
		out.WriteString(between + label + ":")
		write(out, kids[i])
		between = ","
	}
	out.WriteString("}")
}

// ReadChoice reads what WriteChoice writes, of labels that are those of one choice.
func ReadChoice[T any](r *pieces.Reader, read func(*pieces.Reader) T) (labels []string, kids []T) {
	r.Need("{")
	for {
		labels = append(labels, ReadLabel(r, labels, AreLabels))
		r.Need(":")
		kids = append(kids, read(r))
		if r.Skip("}") {
			return labels, kids
		}
		r.Need(",")
	}
}
