package steps

// Sides of a channel.
const (
	childs = iota
	parents
)

// channel has an end on each side.
type channel struct {
	holders [2]*process
	lines   []string // what was done at its child's end
}

// end of a channel: the same one, whatever it is called, and whoever has it.
type end struct {
	of   *channel
	side int
}

func (x end) other() end { return end{x.of, 1 - x.side} }

func (x end) holder() *process { return x.of.holders[x.side] }

// log keeps what was let out at this end, as it is seen from the child's.
func (x end) log(out, in, what string) {
	sign := in
	if x.side == childs {
		sign = out
	}
	x.of.lines = append(x.of.lines, sign+what)
}
