package route

import (
	"iter"
	"slices"

	"polynya/api"
	"polynya/hull"
)

// takes returns how many ticks a leg takes at a speed.
func (p Plan) takes(v int) int { return (Ticks*p.Size + v - 1) / v }

// fastest returns the greatest speed at which a leg takes at least so many ticks.
func (p Plan) fastest(ticks int) int {
	if ticks == 1 {
		return hull.MaxSpeed
	}
	return (Ticks*p.Size - 1) / (ticks - 1)
}

// legsTo yields the allowed legs to a cell that depart at a tick, in increasing order of Arrive, each with its greatest speed.
func (w *work) legsTo(to, depart int) iter.Seq[Leg] {
	return func(yield func(Leg) bool) {
		safe, speeds := hull.MaxSpeed, w.speeds(to)
		for arrive := depart + 1; arrive <= w.end(); arrive++ {
			safe = min(safe, speeds[(arrive-1)/Ticks])
			v := min(safe, w.fastest(arrive-depart))
			if v < hull.MinSpeed { // Neither number is greater for a leg that arrives later.
				return
			}
			if w.takes(v) == arrive-depart && !yield(Leg{to, depart, v, arrive}) {
				return
			}
		}
	}
}

// legs yields the allowed legs from a cell that depart at a tick, in increasing order of To, then of Arrive.
func (w *work) legs(cell, tick int) iter.Seq[Leg] {
	return func(yield func(Leg) bool) {
		for to := range w.neighbours(cell) {
			for l := range w.legsTo(to, tick) {
				if !yield(l) {
					return
				}
			}
		}
	}
}

// onward yields the allowed legs from a cell in which the ship is at a tick, after any allowed wait, in increasing order of To, of Depart, then of Arrive.
func (w *work) onward(cell, tick int) iter.Seq[Leg] {
	return func(yield func(Leg) bool) {
		for to := range w.neighbours(cell) {
			for depart := tick; depart == tick || w.waits(cell, depart-1); depart++ {
				for l := range w.legsTo(to, depart) {
					if !yield(l) {
						return
					}
				}
			}
		}
	}
}

// Options returns the allowed legs from a cell.
func Options(p Plan, cell, tick int) ([]Leg, api.Errno) {
	w, e := begin(p)
	if e != api.OK {
		return nil, e
	}
	if !w.isSea(cell) {
		return nil, api.ErrArg
	}
	if !within(tick, 0, w.end()) {
		return nil, api.ErrRange
	}
	return slices.Collect(w.legs(cell, tick)), api.OK
}

// margin returns the least number, over the ticks of a leg that ends in the plan, of the safe speed less its Speed: below 0 if the leg is not allowed.
func (w *work) margin(l Leg) int {
	least, speeds := hull.MaxSpeed, w.speeds(l.To)
	for tick := l.Depart; tick < l.Arrive; tick++ {
		least = min(least, speeds[tick/Ticks]-l.Speed)
	}
	return least
}

// follows reports whether a leg can be one of a route that is in a cell at a tick, whatever the ice is.
func (w *work) follows(l Leg, cell, tick int) bool {
	next := func(to int) bool { return to == l.To }
	if _, is := first(w.neighbours(cell), next); !is {
		return false
	}
	if l.Depart < tick || !within(l.Speed, hull.MinSpeed, hull.MaxSpeed) {
		return false
	}
	// The sum of Depart and the ticks of the leg may not fit an int; the difference of two that are not below 0 does.
	return l.Arrive > l.Depart && l.Arrive-l.Depart == w.takes(l.Speed)
}

// checkLeg returns the error of a leg of a route that is in a cell at a tick.
func (w *work) checkLeg(l Leg, cell, tick int) api.Errno {
	if !w.follows(l, cell, tick) {
		return api.ErrRoute
	}
	if l.Arrive > w.end() {
		return api.ErrTime
	}
	for ; tick < l.Depart; tick++ {
		if !w.waits(cell, tick) {
			return api.ErrBlocked
		}
	}
	if w.margin(l) < 0 {
		return api.ErrBlocked
	}
	return api.OK
}

// checkRoute returns the error of a route.
func (w *work) checkRoute(l []Leg) api.Errno {
	if len(l) > MaxLegs {
		return api.ErrMany
	}
	cell, tick := w.From, 0
	for _, leg := range l {
		if e := w.checkLeg(leg, cell, tick); e != api.OK {
			return e
		}
		cell, tick = leg.To, leg.Arrive
	}
	if cell != w.To {
		return api.ErrRoute
	}
	return api.OK
}

// beginRoute returns a plan at work, and its error or that of a route.
func beginRoute(p Plan, l []Leg) (*work, api.Errno) {
	w, e := begin(p)
	if e != api.OK {
		return nil, e
	}
	return w, w.checkRoute(l)
}

// Accept returns when an accepted route arrives.
func Accept(p Plan, l []Leg) (int, api.Errno) {
	if _, e := beginRoute(p, l); e != api.OK || len(l) == 0 {
		return 0, e
	}
	return l[len(l)-1].Arrive, api.OK
}

// Margin returns the least margin of an accepted route.
func Margin(p Plan, l []Leg) (int, api.Errno) {
	w, e := beginRoute(p, l)
	if e != api.OK {
		return 0, e
	}
	least := hull.MaxSpeed
	for _, leg := range l {
		least = min(least, w.margin(leg))
	}
	return least, api.OK
}
