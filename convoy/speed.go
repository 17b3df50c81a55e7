package convoy

import (
	"cmp"

	"polynya/api"
	"polynya/hull"
	"polynya/ice"
)

// safe returns the greatest speed that is safe for all members in a cell, 0 if there is none.
func safe(c Convoy, cell ice.Cell) int {
	v, _ := hull.Safe(c.Breaker.Ship, cell, false)
	for _, m := range c.Ships {
		inChannel, _ := hull.Safe(m.Ship, cell, true)
		v = min(v, inChannel)
	}
	return v
}

// passes reports whether the ships, in an order, have passed each place in a cell before the channel closes there.
func (g moving) passes(order []int, cell ice.Cell) bool {
	return g.tail(order) <= g.open(cell.Press.Hi)
}

// speeds returns all speeds that hold. A greater speed can have a tail that passes where a lesser one has not, so all are asked for.
func speeds(c Convoy, cell ice.Cell) []api.Span {
	order := inTurn(len(c.Ships))
	return spans(hull.MinSpeed, safe(c, cell), func(v int) bool { return atSpeed(c, v).passes(order, cell) })
}

// fastest returns the greatest speed that holds, 0 if there is none.
func fastest(c Convoy, cell ice.Cell) int {
	l := speeds(c, cell)
	if len(l) == 0 {
		return 0
	}
	return l[len(l)-1].Hi
}

// checkIn returns the error of a convoy, and of a cell.
func checkIn(c Convoy, cell ice.Cell) api.Errno { return cmp.Or(Check(c), ice.CheckCell(cell)) }

// Holds reports whether a speed holds.
func Holds(c Convoy, cell ice.Cell, v int) (bool, api.Errno) {
	if e := cmp.Or(checkIn(c, cell), checkSpeed(v)); e != api.OK {
		return false, e
	}
	return within(v, hull.MinSpeed, safe(c, cell)) && atSpeed(c, v).passes(inTurn(len(c.Ships)), cell), api.OK
}

// Speeds returns all speeds that hold.
func Speeds(c Convoy, cell ice.Cell) ([]api.Span, api.Errno) {
	if e := checkIn(c, cell); e != api.OK {
		return nil, e
	}
	return speeds(c, cell), api.OK
}

// Fastest returns the greatest speed that holds.
func Fastest(c Convoy, cell ice.Cell) (int, api.Errno) {
	if e := checkIn(c, cell); e != api.OK {
		return 0, e
	}
	v := fastest(c, cell)
	if v == 0 {
		return 0, api.ErrNone
	}
	return v, api.OK
}
