package convoy

import (
	"cmp"

	"polynya/api"
	"polynya/hull"
	"polynya/ice"
)

const (
	// maxPart is the greatest Length of a part.
	maxPart = 10000
	// perHour is how many minutes an hour has.
	perHour = 60
)

// longest returns how many of the first ships can go as a convoy in a cell.
func longest(c Convoy, cell ice.Cell) int {
	ships, n := c.Ships, 0
	for n < len(ships) {
		c.Ships = ships[:n+1]
		if fastest(c, cell) == 0 {
			break
		}
		n++
	}
	return n
}

// Split divides the ships into convoys. A convoy that ships leave still holds, so a first convoy that is as long as possible leaves no more convoys to the rest than a shorter one does.
func Split(c Convoy, cell ice.Cell) ([]int, api.Errno) {
	if e := checkIn(c, cell); e != api.OK {
		return nil, e
	}
	var counts []int
	for len(c.Ships) > 0 {
		n := longest(c, cell)
		if n == 0 {
			return nil, api.ErrNone
		}
		counts = append(counts, n)
		c.Ships = c.Ships[n:]
	}
	return counts, api.OK
}

// checkParts returns the error of the parts of a leg.
func checkParts(l []hull.Part) api.Errno {
	if !within(len(l), 1, hull.MaxParts) {
		return api.ErrMany
	}
	for _, p := range l {
		if !within(p.Length, 1, maxPart) {
			return api.ErrRange
		}
		if e := ice.CheckCell(p.Cell); e != api.OK {
			return e
		}
	}
	return api.OK
}

// Leg returns the speeds of the parts of a leg, and how long it takes.
func Leg(c Convoy, l []hull.Part) ([]int, int, api.Errno) {
	if e := cmp.Or(Check(c), checkParts(l)); e != api.OK {
		return nil, 0, e
	}
	var speeds []int
	time := 0
	for i, p := range l {
		v := fastest(c, p.Cell)
		if v == 0 {
			return nil, i, api.ErrNone
		}
		speeds = append(speeds, v)
		time += roundedUp(perHour*p.Length, v)
	}
	return speeds, time, api.OK
}
