package ice

import (
	"cmp"

	"polynya/api"
)

// spansOf returns the spans of a cell, in the order of the quantities.
func spansOf(c Cell) [quantities]api.Span {
	return [quantities]api.Span{c.Conc, c.Thick, c.Ridge, c.Press}
}

// numbersOf returns the quantities of ice, in their order.
func numbersOf(x Ice) [quantities]int {
	return [quantities]int{x.Conc, x.Thick, x.Ridge, x.Press}
}

// cellOf returns the cell that has the span of each quantity.
func cellOf(span func(q int) api.Span) Cell {
	return Cell{Conc: span(0), Thick: span(1), Ridge: span(2), Press: span(3)}
}

// every reports whether something is so for each quantity.
func every(is func(q int) bool) bool {
	for q := range quantities {
		if !is(q) {
			return false
		}
	}
	return true
}

// rightSpan reports whether a span of a quantity is allowed.
func rightSpan(s api.Span, q int) bool {
	return 0 <= s.Lo && s.Lo <= s.Hi && s.Hi <= limits[q]
}

// inSpan reports whether a span has a number.
func inSpan(n int, s api.Span) bool { return within(n, s.Lo, s.Hi) }

// Whole returns the whole cell.
func Whole() Cell {
	return cellOf(func(q int) api.Span { return api.Span{Hi: limits[q]} })
}

// CheckIce returns the error of ice.
func CheckIce(x Ice) api.Errno {
	n := numbersOf(x)
	if !every(func(q int) bool { return within(n[q], 0, limits[q]) }) {
		return api.ErrIce
	}
	return api.OK
}

// CheckCell returns the error of a cell.
func CheckCell(c Cell) api.Errno {
	s := spansOf(c)
	if !every(func(q int) bool { return rightSpan(s[q], q) }) {
		return api.ErrIce
	}
	return api.OK
}

// CheckRates returns the error of rates.
func CheckRates(m Rates) api.Errno {
	up, down := numbersOf(m.Up), numbersOf(m.Down)
	if !every(func(q int) bool { return within(up[q], 0, MaxRate) && within(down[q], 0, MaxRate) }) {
		return api.ErrRange
	}
	return api.OK
}

// Has reports whether a cell has some ice.
func Has(c Cell, x Ice) (bool, api.Errno) {
	if e := cmp.Or(CheckCell(c), CheckIce(x)); e != api.OK {
		return false, e
	}
	return has(c, x), api.OK
}

// has reports whether a cell that is right has some ice.
func has(c Cell, x Ice) bool {
	s, n := spansOf(c), numbersOf(x)
	return every(func(q int) bool { return inSpan(n[q], s[q]) })
}

// Inside reports whether a cell is inside another one.
func Inside(a, b Cell) (bool, api.Errno) {
	if e := firstWrong([]Cell{a, b}, CheckCell); e != api.OK {
		return false, e
	}
	return inside(a, b), api.OK
}

// inside reports whether a cell that is right is inside another one.
func inside(a, b Cell) bool {
	s, t := spansOf(a), spansOf(b)
	return every(func(q int) bool { return inSpan(s[q].Lo, t[q]) && inSpan(s[q].Hi, t[q]) })
}

// Meet returns the ice that two cells have.
func Meet(a, b Cell) (Cell, api.Errno) {
	if e := firstWrong([]Cell{a, b}, CheckCell); e != api.OK {
		return Cell{}, e
	}
	c, common := meet(a, b)
	if !common {
		return Cell{}, api.ErrEmpty
	}
	return c, api.OK
}

// meet returns the ice that two cells that are right have, and whether there is some.
func meet(a, b Cell) (Cell, bool) {
	s, t := spansOf(a), spansOf(b)
	common := true
	c := cellOf(func(q int) api.Span {
		x := api.Span{Lo: max(s[q].Lo, t[q].Lo), Hi: min(s[q].Hi, t[q].Hi)}
		common = common && x.Lo <= x.Hi
		return x
	})
	return c, common
}

// Hull returns the least cell in which two are inside.
func Hull(a, b Cell) (Cell, api.Errno) {
	if e := firstWrong([]Cell{a, b}, CheckCell); e != api.OK {
		return Cell{}, e
	}
	return hull(a, b), api.OK
}

// hull returns the least cell in which two that are right are inside.
func hull(a, b Cell) Cell {
	s, t := spansOf(a), spansOf(b)
	return cellOf(func(q int) api.Span {
		return api.Span{Lo: min(s[q].Lo, t[q].Lo), Hi: max(s[q].Hi, t[q].Hi)}
	})
}

// change returns the most by which a quantity can change: rounded up, as the set must hold whatever the ice does.
func change(rate, hours int) int { return (rate*hours + 23) / 24 }

// Age returns the aged cell.
func Age(c Cell, m Rates, hours int) (Cell, api.Errno) {
	if e := cmp.Or(CheckCell(c), CheckRates(m), checkHour(hours)); e != api.OK {
		return Cell{}, e
	}
	return aged(c, m.Up, m.Down, hours), api.OK
}

// aged returns a cell that is right, aged by hours with the rates up and down.
func aged(c Cell, up, down Ice, hours int) Cell {
	s, grow, shrink := spansOf(c), numbersOf(up), numbersOf(down)
	return cellOf(func(q int) api.Span {
		return api.Span{
			Lo: max(s[q].Lo-change(shrink[q], hours), 0),
			Hi: min(s[q].Hi+change(grow[q], hours), limits[q]),
		}
	})
}

// Allowed reports whether a course is allowed.
func Allowed(l []Ice, m Rates) (bool, api.Errno) {
	if len(l) > MaxCourse {
		return false, api.ErrMany
	}
	if e := cmp.Or(firstWrong(l, CheckIce), CheckRates(m)); e != api.OK {
		return false, e
	}
	// The hours next to each other do not suffice: changes are rounded up, so that those of two hours can be more than the change of both.
	for from := range l {
		for to := from + 1; to < len(l); to++ {
			if !canBecome(l[from], l[to], m, to-from) {
				return false, api.OK
			}
		}
	}
	return true, api.OK
}

// canBecome reports whether no quantity changes by more than rates allow in so many hours.
func canBecome(x, y Ice, m Rates, hours int) bool {
	from, to, up, down := numbersOf(x), numbersOf(y), numbersOf(m.Up), numbersOf(m.Down)
	return every(func(q int) bool {
		return within(to[q]-from[q], -change(down[q], hours), change(up[q], hours))
	})
}
