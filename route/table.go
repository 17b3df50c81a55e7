package route

import (
	"iter"
	"slices"

	"polynya/api"
)

// grid returns a truth, false, for each tick from 0 to the end and each cell.
func (w *work) grid() [][]bool {
	g := make([][]bool, w.end()+1)
	for tick := range g {
		g[tick] = make([]bool, len(w.Basin.Land))
	}
	return g
}

// cellsIn returns the cells of which something is so, in increasing order.
func cellsIn(is []bool) []int {
	var l []int
	for cell, so := range is {
		if so {
			l = append(l, cell)
		}
	}
	return l
}

// leadsTo yields the ticks and the cells to which a wait of a tick, and each leg, leads from a cell, as far as they are allowed.
func (w *work) leadsTo(cell, tick int) iter.Seq2[int, int] {
	return func(yield func(int, int) bool) {
		if w.waits(cell, tick) && !yield(tick+1, cell) {
			return
		}
		for l := range w.legs(cell, tick) {
			if !yield(l.Arrive, l.To) {
				return
			}
		}
	}
}

// places yields, tick by tick, the cells in which the ship can be, in increasing order.
func (w *work) places() iter.Seq2[int, []int] {
	return func(yield func(int, []int) bool) {
		can := w.grid()
		can[0][w.From] = true
		for tick, is := range can {
			cells := cellsIn(is)
			if !yield(tick, cells) {
				return
			}
			for _, cell := range cells {
				for then, to := range w.leadsTo(cell, tick) {
					can[then][to] = true
				}
			}
		}
	}
}

// Table returns the cells in which the ship can be.
func Table(p Plan) ([][]int, api.Errno) {
	w, e := begin(p)
	if e != api.OK {
		return nil, e
	}
	var table [][]int
	for _, cells := range w.places() {
		table = append(table, cells)
	}
	return table, api.OK
}

// checkTable returns the error of a table.
func (w *work) checkTable(table [][]int) api.Errno {
	if len(table) != w.end()+1 {
		return api.ErrArg
	}
	for _, cells := range table {
		for i, cell := range cells {
			if !w.isSea(cell) || i > 0 && cell <= cells[i-1] {
				return api.ErrRoute
			}
		}
	}
	return api.OK
}

// closed reports whether no wait and no leg leads out of the lists of a table that is right.
func (w *work) closed(table [][]int) bool {
	in := w.grid()
	for tick, cells := range table {
		for _, cell := range cells {
			in[tick][cell] = true
		}
	}
	kept := true
search:
	for tick, cells := range table {
		for _, cell := range cells {
			for then, to := range w.leadsTo(cell, tick) {
				if !in[then][to] {
					kept = false
					break search
				}
			}
		}
	}
	return kept
}

// Proves reports whether a table proves that there is no route.
func Proves(p Plan, table [][]int) (bool, api.Errno) {
	w, e := begin(p)
	if e != api.OK {
		return false, e
	}
	if e := w.checkTable(table); e != api.OK {
		return false, e
	}
	arrives := slices.ContainsFunc(table, func(cells []int) bool { return slices.Contains(cells, w.To) })
	return slices.Contains(table[0], w.From) && !arrives && w.closed(table), api.OK
}

// Wall returns the wall of a plan without a route.
func Wall(p Plan) ([]int, api.Errno) {
	w, e := begin(p)
	if e != api.OK {
		return nil, e
	}
	been := make([]bool, len(w.Basin.Land))
	for _, cells := range w.places() {
		for _, cell := range cells {
			been[cell] = true
		}
	}
	if been[w.To] {
		return nil, api.ErrState
	}
	wall := make([]bool, len(been))
	for _, cell := range cellsIn(been) {
		for next := range w.neighbours(cell) {
			wall[next] = !been[next]
		}
	}
	return cellsIn(wall), api.OK
}
