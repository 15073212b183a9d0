package steps

import (
	"iter"

	"stirrup/api"
)

// values are those of two functions at the same number.
type values struct{ first, second int }

// combined returns the short steps of the function whose values are made of those of two functions. Before the first
// step of either it has to be 0, as they are.
func combined(a, b []api.Step, of func(a, b int) int) ([]api.Step, api.Errno) {
	if !Valid(a) || !Valid(b) {
		return nil, api.ErrArg
	}
	var l []api.Step
	last := 0
	for from, v := range together(a, b) {
		value := of(v.first, v.second)
		if !isArea(value) {
			return nil, api.ErrBig
		}
		if value != last {
			l = append(l, api.Step{From: from, Value: value})
			last = value
		}
	}
	// Only now, as a value that is too great comes first, wherever it is.
	if len(l) > api.MaxSteps {
		return nil, api.ErrFull
	}
	return l, api.OK
}

// together yields each From of two lists once, in ascending order, with the values of both functions there.
func together(a, b []api.Step) iter.Seq2[int, values] {
	return func(yield func(int, values) bool) {
		var v values
		i, j := 0, 0
		next := func() (from int, more bool) {
			switch {
			case i < len(a) && j < len(b):
				return min(a[i].From, b[j].From), true
			case i < len(a):
				return a[i].From, true
			case j < len(b):
				return b[j].From, true
			}
			return 0, false
		}
		for from, more := next(); more; from, more = next() {
			if i < len(a) && a[i].From == from {
				v.first = a[i].Value
				i++
			}
			if j < len(b) && b[j].From == from {
				v.second = b[j].Value
				j++
			}
			if !yield(from, v) {
				return
			}
		}
	}
}
