// Package ice says what is known of the ice. It is layer 1: see shared/doc/01-ice.md.
package ice

import "polynya/api"

// Sources, limits of quantities, and limits of layer 1.
const (
	Satellite = 1
	Buoy      = 2
	Ship      = 3

	MostConc  = 100
	MostThick = 400
	MostRidge = 100
	MostPress = 3

	MaxRate    = 1000
	MaxReports = 12
	MaxAll     = 400
	MaxCourse  = 400
)

// Ice is the ice of a cell.
type Ice struct{ Conc, Thick, Ridge, Press int }

// Cell has bounds of the ice.
type Cell struct{ Conc, Thick, Ridge, Press api.Span }

// Rates say how fast ice can change.
type Rates struct{ Up, Down Ice }

// Report tells of the ice of a cell.
type Report struct {
	Id, Source, At, X, Y, Has int
	Cell                      Cell
}

// Chart has a cell for each place.
type Chart struct {
	W, H, Hour int
	Cells      []Cell
}

// quantities is how many quantities ice has.
const quantities = 4

// limits has the greatest number of each quantity; the least one is 0.
var limits = [quantities]int{MostConc, MostThick, MostRidge, MostPress}

// firstWrong returns the error of the first element that has one.
func firstWrong[T any](l []T, check func(T) api.Errno) api.Errno {
	for _, x := range l {
		if e := check(x); e != api.OK {
			return e
		}
	}
	return api.OK
}

// within reports whether a number is from lo to hi.
func within(n, lo, hi int) bool { return lo <= n && n <= hi }

// checkHour returns ErrRange for what is no hour, or not so many hours.
func checkHour(hour int) api.Errno {
	if !within(hour, 0, api.MaxHour) {
		return api.ErrRange
	}
	return api.OK
}
