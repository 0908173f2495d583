package queues

import "duet/api"

// letter on its way: a value, an end of a channel, or a label.
type letter struct {
	value api.Value
	end   end
	label string
}

// line of letters that go over a channel in one direction.
type line struct {
	letters []letter
	waits   *process // for a letter, or for room; as there is room for one at least, never one for each
}

// end of a channel: its lines go with it, whoever has it.
type end struct{ out, in *line }

// channel is the child's end of a new one, and its parent's.
func channel() (childs, parents end) {
	one, other := &line{}, &line{}
	return end{out: one, in: other}, end{out: other, in: one}
}

func (l *line) put(x letter) { l.letters = append(l.letters, x) }

// take the first letter.
func (l *line) take() letter {
	x := l.letters[0]
	l.letters = l.letters[1:]
	return x
}
