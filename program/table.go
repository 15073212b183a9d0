package program

import (
	"slices"

	"stirrup/api"
)

// table is the equations of a program, solved for one column each, in whole numbers over a common denominator. Its
// columns are those of the variables, of the slack of each row, of its gap, and of the right side, which is never
// negative. The gap of a row is what it is missed by: the sum of all gaps must become 0. A gap that has left the
// equations never enters again, but its column goes on telling the multiplier of its row.
type table struct {
	lines [][]number // the equations, one for each row; then the cost, and the sum of the gaps
	basis []int      // for each equation the column that it is solved for
	under uint64     // the common denominator
	gaps  int        // the first column of the gaps
}

// start returns the table of a program, solved for the gaps, or the first error.
func start(p api.Program) (*table, api.Errno) {
	if !Valid(p) {
		return nil, api.ErrArg
	}
	if !fits(p) {
		return nil, api.ErrBig
	}
	t := &table{under: 1, gaps: len(p.Cost) + len(p.Rows)}
	for i, row := range p.Rows {
		t.addRow(i, row, len(p.Rows))
	}
	// The sum begins with 0 in the columns of the gaps, as the cost does: then these tell what the rows have been
	// multiplied by.
	cost, gap, one := t.line(p.Cost, len(p.Rows)), t.line(nil, len(p.Rows)), numberOf(1)
	for _, line := range t.lines {
		for j := range gap {
			gap[j] = cross(gap[j], one, line[j], one, 1)
		}
	}
	t.lines = append(t.lines, cost, gap)
	return t, api.OK
}

// line returns a line that begins with these numbers, for a program with as many rows.
func (t *table) line(numbers []int, rows int) []number {
	line := make([]number, t.gaps+rows+1)
	copy(line, numbersOf(numbers))
	return line
}

// addRow adds the equation of row i of as many rows.
func (t *table) addRow(i int, row api.Row, rows int) {
	line := t.line(row.Coefs, rows)
	switch slack := t.gaps - rows + i; row.Kind {
	case api.AtMost:
		line[slack] = numberOf(1)
	case api.AtLeast:
		line[slack] = numberOf(-1)
	}
	line[len(line)-1] = numberOf(row.Right)
	if row.Right < 0 {
		turn(line)
	}
	line[t.gaps+i] = numberOf(1)
	t.lines = append(t.lines, line)
	t.basis = append(t.basis, t.gaps+i)
}

// turn makes each number of a line its opposite.
func turn(line []number) {
	for j, n := range line {
		line[j] = n.opposite()
	}
}

// cost returns where the line of the cost is.
func (t *table) cost() int { return len(t.basis) }

// gap returns where the line of the sum of the gaps is.
func (t *table) gap() int { return len(t.basis) + 1 }

// close makes all gaps 0, and reports whether that is possible.
func (t *table) close() bool {
	// The sum of the gaps is never negative, so that there is always a row that leaves.
	t.lower(t.gap())
	if right(t.lines[t.gap()]) != numberOf(0) {
		return false
	}
	// A gap that is 0 must not grow again. Where no column can replace it, the row follows from the others, and
	// nothing changes it any more.
	for r, column := range t.basis {
		if column < t.gaps {
			continue
		}
		c := slices.IndexFunc(t.lines[r][:t.gaps], func(n number) bool { return n != numberOf(0) })
		if c >= 0 {
			t.pivot(r, c)
		}
	}
	return true
}

// lower makes the value of a line as small as it can be, and reports whether there is a least one.
func (t *table) lower(goal int) bool {
	for {
		c := slices.IndexFunc(t.lines[goal][:t.gaps], func(n number) bool { return n.minus })
		if c < 0 {
			return true
		}
		r := t.leaving(c)
		if r < 0 {
			return false
		}
		t.pivot(r, c)
	}
}

// leaving returns the row that limits column c most, of several ones that with the least column, or -1.
func (t *table) leaving(c int) int {
	found := -1
	for r := range t.basis {
		if entry := t.lines[r][c]; entry.minus || entry.size == 0 {
			continue
		}
		if found < 0 || t.before(r, found, c) {
			found = r
		}
	}
	return found
}

// before reports whether row r has to leave before row s if column c enters.
func (t *table) before(r, s, c int) bool {
	a, b := t.lines[r], t.lines[s]
	order := product(right(a), b[c]).order(product(right(b), a[c]))
	return order < 0 || order == 0 && t.basis[r] < t.basis[s]
}

// pivot solves row r for column c, in which it must not have 0, and takes that column out of all other lines.
func (t *table) pivot(r, c int) {
	leaves := t.lines[r]
	if leaves[c].minus {
		turn(leaves)
	}
	for i, line := range t.lines {
		if i == r {
			continue
		}
		entry := line[c]
		for j := range line {
			line[j] = cross(line[j], leaves[c], entry, leaves[j], t.under)
		}
	}
	t.basis[r], t.under = c, leaves[c].size
}

// value returns the value of the cost.
func (t *table) value() api.Frac { return right(t.lines[t.cost()]).opposite().over(t.under) }

// point returns the values of the first n columns.
func (t *table) point(n int) []api.Frac {
	x := make([]api.Frac, n)
	for j := range x {
		x[j] = whole(0)
		if r := slices.Index(t.basis, j); r >= 0 {
			x[j] = right(t.lines[r]).over(t.under)
		}
	}
	return x
}

// multipliers returns what the rows have been multiplied by, before they were taken from a line.
func (t *table) multipliers(goal int, rows []api.Row) []api.Frac {
	y := make([]api.Frac, len(rows))
	for i, row := range rows {
		n := t.lines[goal][t.gaps+i]
		// The equation of a negative right side is that of the opposite numbers.
		if row.Right >= 0 {
			n = n.opposite()
		}
		y[i] = n.over(t.under)
	}
	return y
}

// right returns the right side of a line.
func right(line []number) number { return line[len(line)-1] }
