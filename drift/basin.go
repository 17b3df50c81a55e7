package drift

import (
	"iter"
	"slices"

	"polynya/api"
	"polynya/ice"
)

// work is a basin at work, with the flows of a step where there is one.
type work struct {
	Basin
	flows []Flow
}

// index returns the index of the cell in a column and a row, and whether it is sea.
func (w work) index(x, y int) (int, bool) {
	if !within(x, 0, w.W-1) || !within(y, 0, w.H-1) {
		return 0, false
	}
	i := y*w.W + x
	return i, !w.Land[i]
}

// target returns the target of a move of a cell.
func (w work) target(cell int, m Move) int {
	if i, sea := w.index(cell%w.W+m.DX, cell/w.W+m.DY); sea {
		return i
	}
	return cell
}

// targets returns all targets of a cell, in increasing order, each once.
func (w work) targets(cell int) []int {
	var l []int
	for m := range w.flows[cell].moves() {
		l = append(l, w.target(cell, m))
	}
	// Ice that stays comes in the place of the move that it cannot take.
	slices.Sort(l)
	return slices.Compact(l)
}

// neighbours yields the neighbours of a cell that are sea.
func (w work) neighbours(cell int) iter.Seq[int] {
	return func(yield func(int) bool) {
		for _, m := range [...]Move{{0, -1}, {-1, 0}, {1, 0}, {0, 1}} {
			if i, sea := w.index(cell%w.W+m.DX, cell/w.W+m.DY); sea && !yield(i) {
				return
			}
		}
	}
}

// isSea reports whether there is such a cell, and it is sea.
func (w work) isSea(cell int) bool { return within(cell, 0, len(w.Land)-1) && !w.Land[cell] }

// checkCharts returns the error of charts, and ErrArg if one has not the sides of the basin.
func (w work) checkCharts(l ...ice.Chart) api.Errno {
	for _, c := range l {
		if e := ice.CheckChart(c); e != api.OK {
			return e
		}
	}
	for _, c := range l {
		if c.W != w.W || c.H != w.H {
			return api.ErrArg
		}
	}
	return api.OK
}

// checkShores returns the error of charts, as checkCharts, and ErrDrift if land has ice in one.
func (w work) checkShores(l ...ice.Chart) api.Errno {
	if e := w.checkCharts(l...); e != api.OK {
		return e
	}
	for _, c := range l {
		for i, x := range c.Cells {
			if w.Land[i] && x != (ice.Cell{}) {
				return api.ErrDrift
			}
		}
	}
	return api.OK
}

// basinWith returns a basin at work, and its error or that of charts with shores.
func basinWith(b Basin, l ...ice.Chart) (work, api.Errno) {
	w := work{Basin: b}
	if e := CheckBasin(b); e != api.OK {
		return work{}, e
	}
	return w, w.checkShores(l...)
}

// CheckBasin returns the error of a basin.
func CheckBasin(b Basin) api.Errno {
	// Which sides are allowed is said by layer ice; that such a chart has no cells is another error.
	if ice.CheckChart(ice.Chart{W: b.W, H: b.H}) == api.ErrRange {
		return api.ErrRange
	}
	if len(b.Land) != b.W*b.H {
		return api.ErrArg
	}
	return api.OK
}

// CheckFlows returns the error of flows.
func CheckFlows(b Basin, l []Flow) api.Errno {
	if e := CheckBasin(b); e != api.OK {
		return e
	}
	if len(l) != len(b.Land) {
		return api.ErrArg
	}
	for _, f := range l {
		if e := checkFlow(f); e != api.OK {
			return e
		}
	}
	return api.OK
}

// Targets returns the targets of a cell.
func Targets(b Basin, l []Flow, cell int) ([]int, api.Errno) {
	if e := CheckFlows(b, l); e != api.OK {
		return nil, e
	}
	w := work{b, l}
	if !w.isSea(cell) {
		return nil, api.ErrArg
	}
	return w.targets(cell), api.OK
}

// Shore returns a chart whose land has no ice.
func Shore(b Basin, c ice.Chart) (ice.Chart, api.Errno) {
	if e := CheckBasin(b); e != api.OK {
		return ice.Chart{}, e
	}
	w := work{Basin: b}
	if e := w.checkCharts(c); e != api.OK {
		return ice.Chart{}, e
	}
	c.Cells = slices.Clone(c.Cells)
	for i, land := range w.Land {
		if land {
			c.Cells[i] = ice.Cell{}
		}
	}
	return c, api.OK
}
