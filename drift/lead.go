package drift

import (
	"polynya/api"
	"polynya/ice"
)

// Kinds of cells: of two, the greater one is more open.
const (
	noSea       = 0
	closed      = 1
	perhapsLead = 2
	lead        = 3
)

// kind returns the kind of a sea cell.
func kind(c ice.Cell) int {
	switch {
	case c.Conc.Hi <= LeadMost:
		return lead
	case c.Conc.Lo <= LeadMost:
		return perhapsLead
	}
	return closed
}

// kinds returns the kinds of all cells of a chart that is right.
func (w work) kinds(c ice.Chart) []int {
	l := make([]int, len(c.Cells))
	for i, x := range c.Cells {
		if w.Land[i] {
			l[i] = noSea
		} else {
			l[i] = kind(x)
		}
	}
	return l
}

// Kinds returns the kinds of all cells.
func Kinds(b Basin, c ice.Chart) ([]int, api.Errno) {
	w, e := basinWith(b, c)
	if e != api.OK {
		return nil, e
	}
	return w.kinds(c), api.OK
}

// Turns returns the cells whose kinds have changed.
func Turns(b Basin, from, to ice.Chart) ([]Turn, api.Errno) {
	w, e := basinWith(b, from, to)
	if e != api.OK {
		return nil, e
	}
	var l []Turn
	after := w.kinds(to)
	for i, before := range w.kinds(from) {
		if before != after[i] {
			l = append(l, Turn{Cell: i, From: before, To: after[i]})
		}
	}
	return l, api.OK
}

// way reports whether there is a way from a cell to another one over cells of a kind, or of those that are more open.
func (w work) way(kinds []int, open, from, to int) bool {
	if kinds[from] < open {
		return false
	}
	seen := make([]bool, len(kinds))
	seen[from] = true
	ahead := []int{from}
search:
	for len(ahead) > 0 {
		cell := ahead[0]
		ahead = ahead[1:]
		for next := range w.neighbours(cell) {
			if seen[next] || kinds[next] < open {
				continue
			}
			seen[next] = true
			if next == to {
				break search
			}
			ahead = append(ahead, next)
		}
	}
	return seen[to]
}

// Joined returns whether two cells are joined by leads.
func Joined(b Basin, c ice.Chart, from, to int) (int, api.Errno) {
	w, e := basinWith(b, c)
	if e != api.OK {
		return 0, e
	}
	if !w.isSea(from) || !w.isSea(to) {
		return 0, api.ErrArg
	}
	kinds := w.kinds(c)
	switch {
	case w.way(kinds, lead, from, to):
		return 2, api.OK
	case w.way(kinds, perhapsLead, from, to):
		return 1, api.OK
	}
	return 0, api.OK
}
