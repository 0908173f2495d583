package wires_test

import (
	"encoding/binary"
	"math/rand"
	"reflect"
	"testing"
	"unicode/utf8"

	"duet/api"
	"duet/exprs"
	"duet/graph"
	"duet/types"
	"duet/wires"
)

// typeOf is one with loops, choices and what is carried.
func typeOf(r *rand.Rand) api.Type {
	for {
		size := 1 + r.Intn(5)
		to := func() int { return r.Intn(size) }
		var g []api.Node
		for range size {
			g = append(g, []api.Node{
				{Kind: api.End}, {Kind: api.Send, Sort: 1 + r.Intn(3), To: []int{to()}}, {Kind: api.Take, To: []int{to(), to()}},
				{Kind: api.Pick, Labels: []string{"a", "bcd"}, To: []int{to(), to()}}, {Kind: api.Offer, Labels: []string{"go"}, To: []int{to()}},
			}[r.Intn(5)])
		}
		if t, e := graph.Back(g); e == api.OK {
			return t
		}
	}
}

func textOf(r *rand.Rand) string {
	letters := []string{"a", "\n", "\"", "\x00", "é", "\u2028", "\U0001f600", "\x7f"}
	s := ""
	for range r.Intn(40) {
		if letter := letters[r.Intn(len(letters))]; len(s)+len(letter) <= api.MaxBytes {
			s += letter
		}
	}
	return s
}

func eventOf(r *rand.Rand) api.Event {
	kind := api.Send + r.Intn(6)
	switch kind {
	case api.Send, api.Recv:
		switch r.Intn(3) {
		case 0:
			return number(kind, int64(r.Uint64())>>r.Intn(64))
		case 1:
			return truth(kind, int64(r.Intn(2)))
		}
		return text(kind, textOf(r))
	case api.Give, api.Take:
		return api.Event{Kind: kind, Carry: typeOf(r)}
	}
	return label(kind, []string{"a", "go", "end", "abcdefgh"}[r.Intn(4)])
}

func eventsOf(r *rand.Rand, most int) []api.Event {
	var l []api.Event
	for range r.Intn(most + 1) {
		l = append(l, eventOf(r))
	}
	return l
}

func TestP33WhatIsWrittenIsReadAsItWas(t *testing.T) {
	r := rand.New(rand.NewSource(33))
	for range 3000 {
		l := eventsOf(r, 12)
		s, e := wires.Write(l)
		if e != api.OK {
			t.Fatalf("Write(%v): %d", l, e)
		}
		wantRead(t, s, l)
	}
	for shift := range 64 {
		for _, n := range []int64{1 << shift, 1<<shift - 1, -1 << shift, -1<<shift - 1} {
			l := []api.Event{number(api.Send, n), number(api.Recv, n)}
			s, _ := wires.Write(l)
			wantRead(t, s, l)
		}
	}
}

// plain is a second reading, one byte or piece after the other: at is where it has come to, bad where it can't go on, if it is not below 0.
type plain struct {
	s       string
	at, bad int
}

func (p *plain) fail(at int) {
	if p.bad < 0 {
		p.bad = at
	}
}

func (p *plain) oneOf(bytes string) int {
	if p.bad >= 0 {
		return 0
	}
	for k := range len(bytes) {
		if p.at < len(p.s) && p.s[p.at] == bytes[k] {
			p.at++
			return int(bytes[k])
		}
	}
	p.fail(p.at)
	return 0
}

// number looks for its last byte first, and then whether it is the shortest writing of what it says.
func (p *plain) number() uint64 {
	if p.bad >= 0 {
		return 0
	}
	size := 0
	for p.at+size < len(p.s) && p.s[p.at+size] >= 0x80 {
		size++
	}
	if size >= 10 {
		p.fail(p.at)
		return 0
	}
	if p.at+size == len(p.s) {
		p.fail(len(p.s))
		return 0
	}
	piece := p.s[p.at : p.at+size+1]
	n, k := binary.Uvarint([]byte(piece))
	if k <= 0 || string(binary.AppendUvarint(nil, n)) != piece {
		p.fail(p.at)
		return 0
	}
	p.at += len(piece)
	return n
}

func (p *plain) text(is func(string) bool) string {
	number := p.at
	size := p.number()
	if p.bad >= 0 {
		return ""
	}
	if size > uint64(len(p.s)-p.at) || !is(p.s[p.at:p.at+int(size)]) {
		p.fail(number)
		return ""
	}
	p.at += int(size)
	return p.s[p.at-int(size) : p.at]
}

func isType(s string) bool {
	t, f := types.Parse(s)
	again, _ := types.Write(t)
	return f.Code == api.OK && again == s
}

func isText(s string) bool { return len(s) <= 100 && utf8.ValidString(s) }

func (p *plain) event() api.Event {
	x := api.Event{Kind: p.oneOf("\x02\x03\x04\x05\x06\x07")}
	switch x.Kind {
	case 2, 3:
		x.Value.Sort = p.oneOf("\x01\x02\x03")
		switch x.Value.Sort {
		case 1:
			n := p.number()
			x.Value.N = int64(n>>1) ^ -int64(n&1)
		case 2:
			x.Value.N = int64(p.oneOf("\x00\x01"))
		case 3:
			x.Value.S = p.text(isText)
		}
	case 4, 5:
		x.Carry, _ = types.Parse(p.text(isType))
	case 6, 7:
		x.Label = p.text(exprs.IsName)
	}
	return x
}

// readPlainly is what Read is held against.
func readPlainly(s string) ([]api.Event, api.Fault) {
	p := plain{s: s, bad: -1}
	var l []api.Event
	for p.at < len(s) {
		if len(l) == 200 {
			return nil, api.Fault{Code: api.ErrLarge, At: p.at}
		}
		if l = append(l, p.event()); p.bad >= 0 {
			return nil, api.Fault{Code: api.ErrSyntax, At: p.bad}
		}
	}
	return l, api.Fault{}
}

// wantPlain says what must hold of Read, whatever the bytes: it takes just what is written, and says as much as the second reading.
func wantPlain(t *testing.T, s string) api.Fault {
	t.Helper()
	want, wanted := readPlainly(s)
	l, f := wires.Read(s)
	if f != wanted || !reflect.DeepEqual(l, want) {
		t.Fatalf("Read(%q) = %v, %v, want %v, %v", s, l, f, want, wanted)
	}
	if again, e := wires.Write(l); f.Code == api.OK && (again != s || e != api.OK) {
		t.Fatalf("Read(%q) = %v, which is written %q, %d", s, l, again, e)
	}
	return f
}

// spoilt has some bytes changed, taken out or put in, or the last ones cut off.
func spoilt(r *rand.Rand, s string) string {
	bytes := []byte(s)
	for range 1 + r.Intn(3) {
		if len(bytes) == 0 {
			break
		}
		k := r.Intn(len(bytes))
		other := []byte{0, 1, 2, 3, 6, 0x7f, 0x80, 0x81, 0xff, 'a', ' ', byte(r.Intn(256))}[r.Intn(12)]
		switch r.Intn(4) {
		case 0:
			bytes[k] = other
		case 1:
			bytes = append(bytes[:k], bytes[k+1:]...)
		case 2:
			bytes = append(bytes[:k], append([]byte{other}, bytes[k:]...)...)
		case 3:
			bytes = bytes[:k]
		}
	}
	return string(bytes)
}

func TestP33ReadTakesJustWhatIsWritten(t *testing.T) {
	r := rand.New(rand.NewSource(330))
	fine, early, within := 0, 0, 0
	for range 60000 {
		s, _ := wires.Write(eventsOf(r, 5))
		s = spoilt(r, s)
		switch f := wantPlain(t, s); {
		case f.Code == api.OK:
			fine++
		case f.At == len(s):
			early++
		default:
			within++
		}
	}
	if fine < 3000 || early < 2000 || within < 3000 {
		t.Errorf("too few: %d, %d, %d", fine, early, within)
	}
}

// TestP33ReadOfShortBytes: all rows of bytes that mean something.
func TestP33ReadOfShortBytes(t *testing.T) {
	var longer func(s string, left int)
	longer = func(s string, left int) {
		wantPlain(t, s)
		if left == 0 {
			return
		}
		for _, b := range []byte{0, 1, 2, 3, 4, 6, 7, 8, 0x7f, 0x80, 0x81, 0xff, 'a'} {
			longer(s+string([]byte{b}), left-1)
		}
	}
	longer("", 5)
	for first := range 256 {
		for second := range 256 {
			wantPlain(t, string([]byte{byte(first), byte(second)}))
		}
	}
}

// TestP33WhereItIsCutOff: ahead of an event what is there is read; within one it ends too early, or has a text that is too long for it.
func TestP33WhereItIsCutOff(t *testing.T) {
	for _, x := range written() {
		for size := range x.s {
			wantPlain(t, "\x06\x02go"+x.s[:size])
			if _, f := wires.Read(x.s[:size]); size > 0 && (f.Code != api.ErrSyntax || f.At > size) {
				t.Errorf("Read(%q): %v", x.s[:size], f)
			}
		}
	}
}

func FuzzRead(f *testing.F) {
	for _, x := range written() {
		f.Add(x.s)
	}
	f.Fuzz(func(t *testing.T, s string) { wantPlain(t, s) })
}
