package wires

import "strings"

// Of a number's byte: how many bits of the number it has, and what it has more if it is not the last one.
const (
	groupBits = 7
	goesOn    = 1 << groupBits
)

// mostShift is where the tenth group begins, of which a number of 64 bits has one bit alone.
const mostShift = 63

func writeNumber(out *strings.Builder, n uint64) {
	for n >= goesOn {
		out.WriteByte(byte(n%goesOn) | goesOn)
		n /= goesOn
	}
	out.WriteByte(byte(n))
}

// number throws a fault at its first byte as soon as it can't be one any more, whatever may follow: in its tenth byte, or with a last group that it has no need of.
func (r *reader) number() uint64 {
	first, n := r.at, uint64(0)
	for shift := 0; ; shift += groupBits {
		b := r.next()
		if shift == mostShift && b > 1 || shift > 0 && b == 0 {
			panic(cannotBe(first))
		}
		n |= uint64(b%goesOn) << shift
		if b < goesOn {
			return n
		}
	}
}

// unsigned keeps within 64 bits on its way, also of the least number.
func unsigned(n int64) uint64 {
	if n >= 0 {
		return 2 * uint64(n)
	}
	return 2*uint64(-(n+1)) + 1
}

func signed(n uint64) int64 {
	half := int64(n / 2)
	if n%2 == 1 {
		return -half - 1
	}
	return half
}
