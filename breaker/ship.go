package breaker

import (
	"cmp"

	"polynya/api"
	"polynya/hull"
	"polynya/ice"
)

// minutes is how many of them an hour has.
const minutes = 60

// Calm returns the greatest pressure with which a ship is not beset.
func Calm(s hull.Ship, c ice.Cell) (int, api.Errno) {
	if _, _, e := hull.Beset(s, c, true); e != api.OK {
		return 0, e
	}
	for press := ice.MostPress; press >= 0; press-- {
		c.Press = api.Span{Lo: press, Hi: press}
		if one, _, _ := hull.Beset(s, c, true); !one {
			return press, api.OK
		}
	}
	return 0, api.ErrNone
}

// checkRows returns the error of the rows of legs.
func checkRows(legs [][][]hull.Part) api.Errno {
	if !within(len(legs), 1, MaxSites) {
		return api.ErrMany
	}
	for _, row := range legs {
		if len(row) != len(legs) {
			return api.ErrMany
		}
	}
	return api.OK
}

// hoursOf returns how many hours a leg takes at most.
func hoursOf(s hull.Ship, leg []hull.Part) (int, api.Errno) {
	_, time, e := hull.Leg(s, leg)
	if e != api.OK {
		return 0, e
	}
	hours := (time.Hi + minutes - 1) / minutes
	if hours > maxHours {
		return 0, api.ErrLarge
	}
	return hours, api.OK
}

// Table returns the hours from one site to another one.
func Table(s hull.Ship, legs [][][]hull.Part) ([][]int, api.Errno) {
	if e := cmp.Or(hull.Check(s), checkRows(legs)); e != api.OK {
		return nil, e
	}
	table := make([][]int, len(legs))
	for from, row := range legs {
		table[from] = make([]int, len(row))
		for to, leg := range row {
			if from == to {
				continue
			}
			hours, e := hoursOf(s, leg)
			if e != api.OK {
				return nil, e
			}
			table[from][to] = hours
		}
	}
	return table, api.OK
}
