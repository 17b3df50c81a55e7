package route

import (
	"slices"

	"polynya/api"
	"polynya/ice"
)

// none is more legs than any route has: no route leads there.
const none = 1 << 20

// arrival returns when the best route arrives, and whether there is one.
func (w *work) arrival() (int, bool) {
	for tick, cells := range w.places() {
		if slices.Contains(cells, w.To) {
			return tick, true
		}
	}
	return 0, false
}

// legsLeft returns a function that tells how many legs a ship in a cell at a tick needs at least to be in To at its arrival.
func (w *work) legsLeft(arrival int) func(cell, tick int) int {
	cells := len(w.Basin.Land)
	known := make([]int, arrival*cells) // one more than the legs, 0 if it is not known
	var left func(cell, tick int) int
	left = func(cell, tick int) int {
		switch {
		case tick == arrival && cell == w.To:
			return 0
		case tick >= arrival:
			return none
		case known[tick*cells+cell] > 0:
			return known[tick*cells+cell] - 1
		}
		least := none
		if w.waits(cell, tick) {
			least = left(cell, tick+1)
		}
		for l := range w.legs(cell, tick) {
			least = min(least, 1+left(l.To, l.Arrive))
		}
		known[tick*cells+cell] = least + 1
		return least
	}
	return left
}

// best returns the best route, which arrives at a tick.
func (w *work) best(arrival int) []Leg {
	var l []Leg
	cell, tick, left := w.From, 0, w.legsLeft(arrival)
	for rest := left(cell, tick) - 1; rest >= 0; rest-- {
		next, _ := first(w.onward(cell, tick), func(l Leg) bool { return left(l.To, l.Arrive) == rest })
		l = append(l, next)
		cell, tick = next.To, next.Arrive
	}
	return l
}

// Best returns the best route.
func Best(p Plan) ([]Leg, int, api.Errno) {
	w, e := begin(p)
	if e != api.OK {
		return nil, 0, e
	}
	tick, is := w.arrival()
	if !is {
		return nil, 0, api.ErrBlocked
	}
	return w.best(tick), tick, api.OK
}

// leastIce returns the cell that has just the least ice of another one.
func leastIce(c ice.Cell) ice.Cell {
	c.Conc.Hi, c.Thick.Hi, c.Ridge.Hi, c.Press.Hi = c.Conc.Lo, c.Thick.Lo, c.Ridge.Lo, c.Press.Lo
	return c
}

// hopeful returns a plan in whose charts each cell has its least ice.
func hopeful(p Plan) Plan {
	p.Charts = slices.Clone(p.Charts)
	for i, c := range p.Charts {
		p.Charts[i].Cells = make([]ice.Cell, len(c.Cells))
		for k, x := range c.Cells {
			p.Charts[i].Cells[k] = leastIce(x)
		}
	}
	return p
}

// Hope returns when the best route would arrive in the least ice.
func Hope(p Plan) (int, api.Errno) {
	if e := Check(p); e != api.OK {
		return 0, e
	}
	tick, is := newWork(hopeful(p)).arrival()
	if !is {
		return 0, api.ErrBlocked
	}
	return tick, api.OK
}
