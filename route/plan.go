package route

import (
	"cmp"
	"iter"

	"polynya/api"
	"polynya/drift"
	"polynya/hull"
	"polynya/ice"
)

// water is what a safe speed depends on, for one and the same ship.
type water struct {
	cell    ice.Cell
	channel bool
}

// work is a plan at work. Only the cells that are asked for have their safe speeds sought, and those of equal cells just once.
type work struct {
	Plan
	known map[water]int
	hours [][]int // by cell, its safe speeds hour by hour; nil where nobody has asked
}

// newWork returns a plan that is right at work.
func newWork(p Plan) *work {
	return &work{Plan: p, known: map[water]int{}, hours: make([][]int, len(p.Basin.Land))}
}

// begin returns a plan at work, and its error.
func begin(p Plan) (*work, api.Errno) {
	if e := Check(p); e != api.OK {
		return nil, e
	}
	return newWork(p), api.OK
}

// end returns the end of a plan.
func (p Plan) end() int { return Ticks * len(p.Charts) }

// isSea reports whether there is such a cell, and it is sea.
func (p Plan) isSea(cell int) bool {
	return within(cell, 0, len(p.Basin.Land)-1) && !p.Basin.Land[cell]
}

// neighbours yields the neighbours of a cell that are sea, in increasing order.
func (p Plan) neighbours(cell int) iter.Seq[int] {
	return func(yield func(int) bool) {
		x, y := cell%p.Basin.W, cell/p.Basin.W
		for _, d := range [...][2]int{{0, -1}, {-1, 0}, {1, 0}, {0, 1}} {
			if !within(x+d[0], 0, p.Basin.W-1) || !within(y+d[1], 0, p.Basin.H-1) {
				continue
			}
			if to := cell + d[1]*p.Basin.W + d[0]; p.isSea(to) && !yield(to) {
				return
			}
		}
	}
}

// safe returns the safe speed of a cell in an hour, 0 if it is not safe.
func (w *work) safe(cell, hour int) int {
	in := water{w.Charts[hour].Cells[cell], w.Channel[cell]}
	v, is := w.known[in]
	if !is {
		v, _ = hull.Safe(w.Ship, in.cell, in.channel)
		w.known[in] = v
	}
	return v
}

// speeds returns the safe speeds of a cell, hour by hour.
func (w *work) speeds(cell int) []int {
	if w.hours[cell] == nil {
		for hour := range w.Charts {
			w.hours[cell] = append(w.hours[cell], w.safe(cell, hour))
		}
	}
	return w.hours[cell]
}

// waits reports whether it is allowed to wait in a cell from a tick to the next one.
func (w *work) waits(cell, tick int) bool {
	return tick < w.end() && w.speeds(cell)[tick/Ticks] > 0
}

// checkCharts returns the error of the charts of a plan.
func checkCharts(p Plan) api.Errno {
	if !within(len(p.Charts), 1, MaxCharts) {
		return api.ErrMany
	}
	for i, c := range p.Charts {
		if e := ice.CheckChart(c); e != api.OK {
			return e
		}
		if c.W != p.Basin.W || c.H != p.Basin.H {
			return api.ErrArg
		}
		if i > 0 && c.Hour != p.Charts[i-1].Hour+1 {
			return api.ErrOrder
		}
	}
	return api.OK
}

// Check returns the error of a plan.
func Check(p Plan) api.Errno {
	if e := cmp.Or(drift.CheckBasin(p.Basin), checkCharts(p)); e != api.OK {
		return e
	}
	if len(p.Channel) != len(p.Basin.Land) {
		return api.ErrArg
	}
	if e := hull.Check(p.Ship); e != api.OK {
		return e
	}
	if !within(p.Size, 1, MaxSize) {
		return api.ErrRange
	}
	if !p.isSea(p.From) || !p.isSea(p.To) {
		return api.ErrArg
	}
	return api.OK
}

// Safe returns the safe speed of a cell in an hour.
func Safe(p Plan, cell, hour int) (int, api.Errno) {
	if e := Check(p); e != api.OK {
		return 0, e
	}
	if !within(hour, 0, len(p.Charts)-1) || !p.isSea(cell) {
		return 0, api.ErrArg
	}
	return hull.Safe(p.Ship, p.Charts[hour].Cells[cell], p.Channel[cell])
}
