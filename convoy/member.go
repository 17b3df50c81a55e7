package convoy

import (
	"cmp"
	"slices"

	"polynya/api"
	"polynya/hull"
)

// What is allowed of a member and of a convoy, and how fast ships go.
const (
	minLength = 10
	maxLength = 500
	maxDelay  = 600
	maxShort  = 20000
	maxClear  = 2000
	maxClose  = 1440

	// A ship goes wayMetres metres in waySeconds seconds at a tenth of a knot.
	wayMetres  = 463
	waySeconds = 9000
)

// members returns the members of a convoy, the Breaker first.
func (c Convoy) members() []Member { return append([]Member{c.Breaker}, c.Ships...) }

// rightStop reports whether the Stop of a member is allowed. Her ship must be right.
func rightStop(m Member) bool {
	if _, e := hull.At(m.Stop, 0); e != api.OK || m.Stop[0].Y != 0 {
		return false
	}
	rising := slices.IsSortedFunc(m.Stop, func(a, b hull.Point) int { return cmp.Compare(a.Y, b.Y) })
	top := m.Ship.Thrust[len(m.Ship.Thrust)-1].X
	return rising && m.Stop[len(m.Stop)-1].X >= top
}

// checkMember returns the error of a member.
func checkMember(m Member) api.Errno {
	if e := hull.Check(m.Ship); e != api.OK {
		return e
	}
	if !rightStop(m) || !within(m.Length, minLength, maxLength) || !within(m.Delay, 0, maxDelay) || !within(m.Short, 0, maxShort) {
		return api.ErrConvoy
	}
	return api.OK
}

// rightClose reports whether the Close of a convoy is allowed.
func (c Convoy) rightClose() bool {
	for press, minutes := range c.Close {
		if !within(minutes, 0, maxClose) || press > 0 && minutes > c.Close[press-1] {
			return false
		}
	}
	return true
}

// Check reports whether a convoy is valid.
func Check(c Convoy) api.Errno {
	if len(c.Ships) > MaxShips {
		return api.ErrMany
	}
	for _, m := range c.members() {
		if e := checkMember(m); e != api.OK {
			return e
		}
	}
	if !within(c.Clear, 0, maxClear) || !c.rightClose() {
		return api.ErrSpace
	}
	return api.OK
}

// checkSpeed returns ErrRange for what is no speed.
func checkSpeed(v int) api.Errno {
	if !within(v, 0, hull.MaxSpeed) {
		return api.ErrRange
	}
	return api.OK
}

// way returns the way at a speed, rounded down and up, if both numbers are right.
func way(v, seconds int) (int, int) {
	n := wayMetres * v * seconds
	return n / waySeconds, roundedUp(n, waySeconds)
}

// Way returns the way at a speed, rounded down and up.
func Way(v, seconds int) (int, int, api.Errno) {
	if e := checkSpeed(v); e != api.OK || !within(seconds, 0, MaxSeconds) {
		return 0, 0, api.ErrRange
	}
	down, up := way(v, seconds)
	return down, up, api.OK
}

// halt returns the Near and the Far of a member that is right.
func halt(m Member, v int) api.Span {
	stop, _ := hull.At(m.Stop, v)
	_, before := way(v, m.Delay)
	return api.Span{Lo: min(m.Short, stop.N/stop.D), Hi: before + roundedUp(stop.N, stop.D)}
}

// Halt returns within which distance a member comes to rest.
func Halt(m Member, v int) (api.Span, api.Errno) {
	if e := cmp.Or(checkMember(m), checkSpeed(v)); e != api.OK {
		return api.Span{}, e
	}
	return halt(m, v), api.OK
}
