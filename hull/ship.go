package hull

import (
	"cmp"
	"slices"

	"polynya/api"
)

// maxAt is the greatest number at which At returns the value of a curve.
const maxAt = 1000

// strengths has the load that a ship bears, by her class less one.
var strengths = [...]int{4000, 8000, 14000, 24000, 40000, 90000}

// fault is something that may be wrong with a ship, and the error for it.
type fault struct {
	err api.Errno
	is  func(s Ship) bool
}

// faults returns all that may be wrong with a ship. A curve must be one before its points are asked for.
func faults() []fault {
	return []fault{
		{api.ErrClass, func(s Ship) bool { return !within(s.Class, 1, len(strengths)) }},
		{api.ErrHull, func(s Ship) bool { return !within(s.Power, 100, 100000) }},
		{api.ErrHull, func(s Ship) bool { return !within(s.Draught, 10, 2000) }},
		{api.ErrHull, func(s Ship) bool { return !within(s.Tonnes, 10, 500000) }},
		{api.ErrHull, func(s Ship) bool { return !isCurve(s.Thrust) || rises(s.Thrust) }},
		{api.ErrHull, func(s Ship) bool { return !within(lastX(s.Thrust), MinSpeed, MaxSpeed) }},
		{api.ErrHull, func(s Ship) bool { return !isCurve(s.Water) || falls(s.Water) }},
		{api.ErrHull, func(s Ship) bool { return lastX(s.Water) > MaxSpeed }},
		{api.ErrHull, func(s Ship) bool { return !isCurve(s.Ice) || falls(s.Ice) }},
		{api.ErrHull, func(s Ship) bool { return s.Ice[0].Y != 0 || lastX(s.Ice) != MaxThick }},
		{api.ErrHull, func(s Ship) bool { return !within(s.Slow, 0, 20) }},
		{api.ErrHull, func(s Ship) bool { return !within(s.Brash, 0, 100) }},
		{api.ErrHull, func(s Ship) bool { return !within(s.Ridge, 0, 500) }},
		{api.ErrHull, func(s Ship) bool { return !within(s.Press, 0, 5000) }},
	}
}

// Check reports whether a ship is valid.
func Check(s Ship) api.Errno {
	for _, f := range faults() {
		if f.is(s) {
			return f.err
		}
	}
	return api.OK
}

// isCurve reports whether points are a curve.
func isCurve(l []Point) bool {
	if !within(len(l), 2, MaxPoints) || l[0].X != 0 {
		return false
	}
	for i, p := range l {
		if p.X > MaxX || !within(p.Y, 0, MaxForce) || i > 0 && p.X <= l[i-1].X {
			return false
		}
	}
	return true
}

// rises reports whether Y increases somewhere on a curve.
func rises(l []Point) bool {
	return !slices.IsSortedFunc(l, func(a, b Point) int { return cmp.Compare(b.Y, a.Y) })
}

// falls reports whether Y decreases somewhere on a curve.
func falls(l []Point) bool {
	return !slices.IsSortedFunc(l, func(a, b Point) int { return cmp.Compare(a.Y, b.Y) })
}

// lastX returns the X of the last point of a curve.
func lastX(l []Point) int { return l[len(l)-1].X }

// value returns the value of a curve at a number that is at least 0.
func value(l []Point, x int) api.Ratio {
	for i, q := range l[1:] {
		if p := l[i]; x <= q.X {
			return lowest(p.Y*(q.X-p.X)+(q.Y-p.Y)*(x-p.X), q.X-p.X)
		}
	}
	return api.Ratio{N: l[len(l)-1].Y, D: 1}
}

// lowest returns a number, at least 0, by another one, above 0, in lowest terms.
func lowest(n, d int) api.Ratio {
	common, rest := d, n%d
	for rest > 0 {
		common, rest = rest, common%rest
	}
	return api.Ratio{N: n / common, D: d / common}
}

// At returns the value of a curve.
func At(l []Point, x int) (api.Ratio, api.Errno) {
	if !isCurve(l) {
		return api.Ratio{}, api.ErrHull
	}
	if !within(x, 0, maxAt) {
		return api.Ratio{}, api.ErrRange
	}
	return value(l, x), api.OK
}

// checkSpeed returns ErrRange for what is no speed.
func checkSpeed(v int) api.Errno {
	if !within(v, 0, MaxSpeed) {
		return api.ErrRange
	}
	return api.OK
}

// Thrust returns the thrust at a speed.
func Thrust(s Ship, v int) (int, api.Errno) {
	if e := cmp.Or(Check(s), checkSpeed(v)); e != api.OK {
		return 0, e
	}
	return thrust(s, v), api.OK
}

// thrust returns the thrust of a ship that is right.
func thrust(s Ship, v int) int {
	y := value(s.Thrust, v)
	return y.N / y.D
}
