package hull

import (
	"cmp"
	"slices"

	"polynya/api"
	"polynya/ice"
)

const (
	// maxLength is the greatest Length of a part.
	maxLength = 10000
	// minutes is how many of them an hour has.
	minutes = 60
)

// checkParts returns the error of the parts of a leg.
func checkParts(l []Part) api.Errno {
	if !within(len(l), 1, MaxParts) {
		return api.ErrMany
	}
	for _, p := range l {
		if !within(p.Length, 1, maxLength) {
			return api.ErrRange
		}
		if e := ice.CheckCell(p.Cell); e != api.OK {
			return e
		}
	}
	return api.OK
}

// Leg returns the safe speeds of the parts of a leg, and how long it takes.
func Leg(s Ship, l []Part) ([]int, api.Span, api.Errno) {
	if e := cmp.Or(Check(s), checkParts(l)); e != api.OK {
		return nil, api.Span{}, e
	}
	var speeds []int
	var time api.Span
	for i, p := range l {
		v, e := safeSpeeds(s, p.Cell, p.Channel)
		if e != api.OK {
			return nil, api.Span{Lo: i}, e
		}
		takes := func(v int) int { return roundedUp(minutes*p.Length, v) }
		speeds = append(speeds, v.Lo)
		time.Lo += takes(v.Hi)
		time.Hi += takes(v.Lo)
	}
	return speeds, time, api.OK
}

// checkPressures returns the error of pressures hour after hour.
func checkPressures(l []api.Span) api.Errno {
	if len(l) > MaxHours {
		return api.ErrMany
	}
	for _, p := range l {
		if p.Lo < 0 || p.Lo > p.Hi || p.Hi > ice.MostPress {
			return api.ErrRange
		}
	}
	return api.OK
}

// Free returns how long a ship waits until she is not beset.
func Free(s Ship, c ice.Cell, press []api.Span) (api.Span, api.Errno) {
	if e := cmp.Or(Check(s), ice.CheckCell(c), checkPressures(press)); e != api.OK {
		return api.Span{}, e
	}
	in := func(p api.Span) (bool, bool) {
		c.Press = p
		return beset(s, c, false)
	}
	hi := slices.IndexFunc(press, func(p api.Span) bool { one, _ := in(p); return !one })
	if hi < 0 {
		return api.Span{}, api.ErrNone
	}
	// Where she is beset in no ice there is one in which she is not: the search ends at hi.
	lo := slices.IndexFunc(press, func(p api.Span) bool { _, all := in(p); return !all })
	return api.Span{Lo: lo, Hi: hi}, api.OK
}
