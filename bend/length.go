package bend

// micrometres is how many of them a millimetre has.
const micrometres = 1000

// length is a length in micrometres, which is from Lo to Hi; a negative one shortens what it is added to.
type length struct{ Lo, Hi int }

// exactly returns the length of so many millimetres.
func exactly(millimetres int) length {
	return length{Lo: micrometres * millimetres, Hi: micrometres * millimetres}
}

func (l length) plus(m length) length { return length{Lo: l.Lo + m.Lo, Hi: l.Hi + m.Hi} }

func (l length) negative() length { return length{Lo: -l.Hi, Hi: -l.Lo} }

// arcOf returns the length of a quarter of a circle.
func arcOf(radius int) length {
	half := micrometres / 2 * radius
	// Pi is between 333 / 106 and 355 / 113.
	return length{Lo: half * 333 / 106, Hi: roundedUp(half*355, 113)}
}

// allowanceOf returns by how much a quarter of a circle is shorter than the corner that it rounds off.
func allowanceOf(radius int) length { return exactly(2 * radius).plus(arcOf(radius).negative()) }

// roundedUp returns a quotient, rounded up; n and by are positive.
func roundedUp(n, by int) int { return (n + by - 1) / by }
