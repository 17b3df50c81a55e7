package convoy

import (
	"cmp"

	"polynya/api"
	"polynya/ice"
)

const (
	// maxGap is the greatest distance between members that Rest takes.
	maxGap = 1000000
	// perMinute is how many seconds a minute has.
	perMinute = 60
)

// moving is a convoy at a speed.
type moving struct {
	Convoy
	v     int
	halts []api.Span // the Near and the Far of each member, the Breaker first
}

// atSpeed returns a convoy that is right, at a speed.
func atSpeed(c Convoy, v int) moving {
	g := moving{Convoy: c, v: v}
	for _, m := range c.members() {
		g.halts = append(g.halts, halt(m, v))
	}
	return g
}

// begin returns a convoy at a speed, and the error of either.
func begin(c Convoy, v int) (moving, api.Errno) {
	if e := cmp.Or(Check(c), checkSpeed(v)); e != api.OK {
		return moving{}, e
	}
	return atSpeed(c, v), api.OK
}

// needs returns a function that tells the gap in front of each ship, if it is asked for them one behind the other: it keeps where the one before can come to rest.
func (g moving) needs() func(ship int) int {
	before := g.halts[0]
	return func(ship int) int {
		halt := g.halts[ship+1]
		gap := g.Clear + max(halt.Hi-before.Lo, 0)
		before = halt
		return gap
	}
}

// tail returns the tail, if the ships go in an order.
func (g moving) tail(order []int) int {
	all, needs := 0, g.needs()
	for _, ship := range order {
		all += needs(ship) + g.Ships[ship].Length
	}
	return all
}

// open returns for how many metres the channel is open at a Press.
func (g moving) open(press int) int {
	metres, _ := way(g.v, perMinute*g.Close[press])
	return metres
}

// Gaps returns the gap in front of each ship.
func Gaps(c Convoy, v int) ([]int, api.Errno) {
	g, e := begin(c, v)
	if e != api.OK {
		return nil, e
	}
	var gaps []int
	needs := g.needs()
	for ship := range g.Ships {
		gaps = append(gaps, needs(ship))
	}
	return gaps, api.OK
}

// Tail returns the tail of a convoy.
func Tail(c Convoy, v int) (int, api.Errno) {
	g, e := begin(c, v)
	if e != api.OK {
		return 0, e
	}
	return g.tail(inTurn(len(g.Ships))), api.OK
}

// Open returns for how many metres the channel is open.
func Open(c Convoy, v, press int) (int, api.Errno) {
	g, e := begin(c, v)
	if e != api.OK {
		return 0, e
	}
	if !within(press, 0, ice.MostPress) {
		return 0, api.ErrRange
	}
	return g.open(press), api.OK
}

// checkRest returns the error of what Rest takes beside a convoy at a speed.
func (g moving) checkRest(gaps []int, fails int, went []int) api.Errno {
	if len(gaps) != len(g.Ships) || !within(fails, 0, len(g.Ships)) || len(went) != len(g.halts)-fails {
		return api.ErrArg
	}
	for _, gap := range gaps {
		if !within(gap, 0, maxGap) {
			return api.ErrRange
		}
	}
	for i, metres := range went {
		if h := g.halts[fails+i]; !within(metres, h.Lo, h.Hi) {
			return api.ErrSpace
		}
	}
	return api.OK
}

// Rest returns what is left between ships if a member fails.
func Rest(c Convoy, v int, gaps []int, fails int, went []int) ([]int, api.Errno) {
	g, e := begin(c, v)
	if e != api.OK {
		return nil, e
	}
	if e := g.checkRest(gaps, fails, went); e != api.OK {
		return nil, e
	}
	var left []int
	for i, metres := range went[1:] {
		left = append(left, gaps[fails+i]+went[i]-metres)
	}
	return left, api.OK
}
