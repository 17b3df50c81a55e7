package convoy

import (
	"cmp"
	"iter"
	"slices"

	"polynya/api"
	"polynya/hull"
	"polynya/ice"
)

// next makes a list the next one of its numbers in lexicographic order, and reports whether there is one.
func next(l []int) bool {
	i := len(l) - 2
	for i >= 0 && l[i] > l[i+1] {
		i--
	}
	if i < 0 {
		return false
	}
	// The numbers behind i decrease, so no other order of them follows: the least one that is greater takes its place.
	k := len(l) - 1
	for l[k] < l[i] {
		k--
	}
	l[i], l[k] = l[k], l[i]
	slices.Reverse(l[i+1:])
	return true
}

// orders yields all orders of so many ships, in lexicographic order. An order that is kept must be copied: the next one is made of it.
func orders(ships int) iter.Seq[[]int] {
	return func(yield func([]int) bool) {
		l := inTurn(ships)
		for yield(l) && next(l) {
		}
	}
}

// copied returns a member that shares no memory with another one.
func copied(m Member) Member {
	m.Ship.Thrust = slices.Clone(m.Ship.Thrust)
	m.Ship.Water = slices.Clone(m.Ship.Water)
	m.Ship.Ice = slices.Clone(m.Ship.Ice)
	m.Stop = slices.Clone(m.Stop)
	return m
}

// with returns a convoy with other ships, in new memory.
func (c Convoy) with(ships []Member) Convoy {
	c.Breaker, c.Ships = copied(c.Breaker), nil
	for _, m := range ships {
		c.Ships = append(c.Ships, copied(m))
	}
	return c
}

// Ordered returns a convoy in another order.
func Ordered(c Convoy, order []int) (Convoy, api.Errno) {
	if e := Check(c); e != api.OK {
		return Convoy{}, e
	}
	if !slices.Equal(slices.Sorted(slices.Values(order)), inTurn(len(c.Ships))) {
		return Convoy{}, api.ErrArg
	}
	var ships []Member
	for _, i := range order {
		ships = append(ships, c.Ships[i])
	}
	return c.with(ships), api.OK
}

// fastestOfAll returns the convoy at the greatest speed that holds in some order, and whether there is one.
func fastestOfAll(c Convoy, cell ice.Cell) (moving, bool) {
	var g moving
	is := false
search:
	for v := safe(c, cell); v >= hull.MinSpeed; v-- {
		g = atSpeed(c, v)
		for order := range orders(len(c.Ships)) {
			if g.passes(order, cell) {
				is = true
				break search
			}
		}
	}
	return g, is
}

// shortest returns the first order with the least tail.
func (g moving) shortest() []int {
	best := inTurn(len(g.Ships))
	least := g.tail(best)
	for order := range orders(len(g.Ships)) {
		if tail := g.tail(order); tail < least {
			best, least = slices.Clone(order), tail
		}
	}
	return best
}

// Best returns the order with the greatest speed, and that speed.
func Best(c Convoy, cell ice.Cell) ([]int, int, api.Errno) {
	if e := checkIn(c, cell); e != api.OK {
		return nil, 0, e
	}
	g, is := fastestOfAll(c, cell)
	if !is {
		return nil, 0, api.ErrNone
	}
	return g.shortest(), g.v, api.OK
}

// Join returns a convoy with one more ship.
func Join(c Convoy, m Member, at int) (Convoy, api.Errno) {
	if e := cmp.Or(Check(c), checkMember(m)); e != api.OK {
		return Convoy{}, e
	}
	if !within(at, 0, len(c.Ships)) {
		return Convoy{}, api.ErrArg
	}
	if len(c.Ships) == MaxShips {
		return Convoy{}, api.ErrMany
	}
	return c.with(slices.Concat(c.Ships[:at], []Member{m}, c.Ships[at:])), api.OK
}

// Leave returns a convoy without a ship.
func Leave(c Convoy, at int) (Convoy, api.Errno) {
	if e := Check(c); e != api.OK {
		return Convoy{}, e
	}
	if !within(at, 0, len(c.Ships)-1) {
		return Convoy{}, api.ErrArg
	}
	return c.with(slices.Concat(c.Ships[:at], c.Ships[at+1:])), api.OK
}
