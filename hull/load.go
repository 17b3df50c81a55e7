package hull

import (
	"cmp"

	"polynya/api"
	"polynya/ice"
)

const (
	// thickLoad is the load of a centimetre at the speed 0; each tenth of a knot adds 1.
	thickLoad = 100
	// ridgeLoad is the load of a ridge.
	ridgeLoad = 300
	// pressLoad is the load of a degree of pressure.
	pressLoad = 2000
)

// load returns the load of an ice at a speed.
func load(i ice.Ice, v int, channel bool) int {
	if i.Conc == 0 {
		return 0
	}
	thick, ridges := i.Thick*(thickLoad+v), i.Ridge
	if channel {
		thick, ridges = roundedUp(thick, 2), 0
	}
	return thick + ridgeLoad*ridges + pressLoad*i.Press
}

// beyond reports whether the ice is beyond her class at a speed.
func (g sailing) beyond(v int) bool { return load(g.in, v, g.channel) > strengths[g.Class-1] }

// safe returns the greatest speed that she can make and at which the ice is not beyond her class, 0 if there is none.
func (g sailing) safe() int {
	v, _ := greatest(lastX(g.Thrust), func(v int) bool { return g.makes(v) && !g.beyond(v) })
	return v
}

// safeSpeeds returns the safe speed of a ship that is right in a cell, and the greatest one in some ice of it.
func safeSpeeds(s Ship, c ice.Cell, channel bool) (api.Span, api.Errno) {
	if one, _ := beset(s, c, channel); one {
		return api.Span{}, api.ErrNone
	}
	if one, _ := beyond(s, c, MinSpeed, channel); one {
		return api.Span{}, api.ErrClass
	}
	return slowestAndFastest(c, func(i ice.Ice) int { return sailing{s, i, channel}.safe() }), api.OK
}

// Load returns the load of an ice at a speed.
func Load(i ice.Ice, v int, channel bool) (int, api.Errno) {
	if e := cmp.Or(ice.CheckIce(i), checkSpeed(v)); e != api.OK {
		return 0, e
	}
	return load(i, v, channel), api.OK
}

// Beyond reports whether an ice of a cell is beyond the class of a ship, and whether all are.
func Beyond(s Ship, c ice.Cell, v int, channel bool) (bool, bool, api.Errno) {
	if e := cmp.Or(Check(s), ice.CheckCell(c), checkSpeed(v)); e != api.OK {
		return false, false, e
	}
	one, all := beyond(s, c, v, channel)
	return one, all, api.OK
}

// beyond reports whether an ice of a cell is beyond the class of a ship that is right, and whether all are.
func beyond(s Ship, c ice.Cell, v int, channel bool) (bool, bool) {
	return oneAndAll(c, func(i ice.Ice) bool { return sailing{s, i, channel}.beyond(v) })
}

// Safe returns the safe speed in a cell.
func Safe(s Ship, c ice.Cell, channel bool) (int, api.Errno) {
	if e := cmp.Or(Check(s), ice.CheckCell(c)); e != api.OK {
		return 0, e
	}
	v, e := safeSpeeds(s, c, channel)
	return v.Lo, e
}
