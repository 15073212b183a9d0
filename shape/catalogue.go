package shape

import "stirrup/api"

// The dimensions, by their indices.
const (
	dimA = iota
	dimB
	dimC
	dimD
	dimE
)

// directions returns in which direction each leg of a code goes: X, Y, or Z for along an axis, and x or y for against it
// (no leg goes against Z). It is empty if the number is no code.
func directions(code int) string {
	switch code {
	case api.Straight:
		return "X"
	case api.Ell:
		return "XY"
	case api.You:
		return "yXY"
	case api.Zed:
		return "XYX"
	case api.Space:
		return "XYZ"
	case api.Hat:
		return "XYXyX"
	case api.Link:
		return "yXYxyX"
	case api.Chair:
		return "ZyXYZ"
	}
	return ""
}

// dimensions returns which dimension each leg of a code has.
func dimensions(code int) []int {
	switch code {
	case api.Link:
		return []int{dimC, dimA, dimB, dimA, dimB, dimC}
	case api.Chair:
		return []int{dimA, dimB, dimC, dimB, dimA}
	}
	// All others have a dimension of its own for each leg, in order.
	return []int{dimA, dimB, dimC, dimD, dimE}[:len(directions(code))]
}

// moved returns where a leg of a length ends, which begins at a point.
func moved(p api.Point, way byte, length int) api.Point {
	switch way {
	case 'X':
		p.X += length
	case 'x':
		p.X -= length
	case 'Y':
		p.Y += length
	case 'y':
		p.Y -= length
	case 'Z':
		p.Z += length
	}
	return p
}
