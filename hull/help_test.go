package hull_test

import (
	"math/big"
	"math/rand/v2"
	"slices"

	"polynya/api"
	"polynya/hull"
	"polynya/ice"
)

// wild are numbers at and beyond limits.
var wild = []int{-1 << 63, -1 << 62, -1 << 32, -1, 0, 1, 2, 3, 6, 7, 8, 10, 20, 100, 101, 250, 251, 400, 401, 1000, 10000, 20001, 1 << 32, 1 << 62, 1<<63 - 1}

func span(lo, hi int) api.Span { return api.Span{Lo: lo, Hi: hi} }

// sure is the span of one number.
func sure(n int) api.Span { return span(n, n) }

// level is a cell of level ice.
func level(lo, hi int) ice.Cell { return ice.Cell{Conc: sure(100), Thick: span(lo, hi)} }

// only is the cell of just one ice.
func only(x ice.Ice) ice.Cell {
	return ice.Cell{Conc: sure(x.Conc), Thick: sure(x.Thick), Ridge: sure(x.Ridge), Press: sure(x.Press)}
}

// curve makes points from X and Y in turn.
func curve(n ...int) []hull.Point {
	var l []hull.Point
	for i := 0; i < len(n); i += 2 {
		l = append(l, hull.Point{X: n[i], Y: n[i+1]})
	}
	return l
}

// example is the ship of the chapter's examples.
func example() hull.Ship {
	return hull.Ship{
		Class: 3, Power: 6000, Draught: 800, Tonnes: 9000,
		Thrust: curve(0, 1000, 100, 800, 200, 0), Water: curve(0, 0, 200, 400), Ice: curve(0, 0, 400, 2000),
		Brash: 20, Ridge: 10, Press: 100,
	}
}

// changed is the ship of the examples with something changed.
func changed(change func(s *hull.Ship)) hull.Ship {
	s := example()
	change(&s)
	return s
}

// even is a ship whose thrust is the same at all speeds, whom nothing resists.
func even(thrust int) hull.Ship {
	return hull.Ship{
		Class: 1, Power: 100, Draught: 10, Tonnes: 10,
		Thrust: curve(0, thrust, 250, thrust), Water: curve(0, 0, 250, 0), Ice: curve(0, 0, 400, 0),
	}
}

// random makes the same numbers in each run.
func random() *rand.Rand { return rand.New(rand.NewPCG(37, 61)) }

// anyCurve makes a curve of 2 to 8 points, up to an X, whose Y are at most so great, sorted.
func anyCurve(r *rand.Rand, last, most int) []hull.Point {
	n := 2 + r.IntN(7)
	x := append(r.Perm(last - 1)[:n-2], last-1)
	slices.Sort(x)
	l := []hull.Point{{X: 0, Y: r.IntN(most + 1)}}
	for _, x := range x {
		l = append(l, hull.Point{X: x + 1, Y: r.IntN(most + 1)})
	}
	slices.SortStableFunc(l, func(a, b hull.Point) int { return a.X - b.X })
	y := make([]int, len(l))
	for i, p := range l {
		y[i] = p.Y
	}
	slices.Sort(y)
	for i := range l {
		l[i].Y = y[i]
	}
	return l
}

// anyShip makes a ship that can go in some ice, and not in all.
func anyShip(r *rand.Rand) hull.Ship {
	s := hull.Ship{
		Class: 1 + r.IntN(6), Power: 100 + r.IntN(99901), Draught: 10 + r.IntN(1991), Tonnes: 10 + r.IntN(499991),
		Thrust: anyCurve(r, 20+r.IntN(231), 3000), Water: anyCurve(r, 10+r.IntN(241), 500), Ice: anyCurve(r, 400, 1500),
		Slow: r.IntN(21), Brash: r.IntN(101), Ridge: r.IntN(20), Press: r.IntN(300),
	}
	for i, k := 0, len(s.Thrust)-1; i < k; i, k = i+1, k-1 {
		s.Thrust[i].Y, s.Thrust[k].Y = s.Thrust[k].Y, s.Thrust[i].Y
	}
	s.Ice[0].Y = 0
	return s
}

// anyIce makes ice that is often thin, and often has no pressure.
func anyIce(r *rand.Rand) ice.Ice {
	return ice.Ice{Conc: r.IntN(101), Thick: r.IntN(1 + r.IntN(401)), Ridge: r.IntN(1 + r.IntN(101)), Press: r.IntN(1 + r.IntN(4))}
}

// around makes a span that has a number, and at most so many more on either side.
func around(r *rand.Rand, n, most, wide int) api.Span {
	return span(max(n-r.IntN(wide+1), 0), min(n+r.IntN(wide+1), most))
}

// anyCell makes a cell that has some ice, and little else.
func anyCell(r *rand.Rand, wide int) ice.Cell {
	x := anyIce(r)
	return ice.Cell{Conc: around(r, x.Conc, 100, wide), Thick: around(r, x.Thick, 400, wide), Ridge: around(r, x.Ridge, 100, wide), Press: around(r, x.Press, 3, wide)}
}

// allIn are all ices of a cell.
func allIn(c ice.Cell) []ice.Ice {
	var l []ice.Ice
	for conc := c.Conc.Lo; conc <= c.Conc.Hi; conc++ {
		for thick := c.Thick.Lo; thick <= c.Thick.Hi; thick++ {
			for ridge := c.Ridge.Lo; ridge <= c.Ridge.Hi; ridge++ {
				for press := c.Press.Lo; press <= c.Press.Hi; press++ {
					l = append(l, ice.Ice{Conc: conc, Thick: thick, Ridge: ridge, Press: press})
				}
			}
		}
	}
	return l
}

// ratio is a fraction of whole numbers.
func ratio(n, d int) *big.Rat { return big.NewRat(int64(n), int64(d)) }

// sum adds fractions, and product multiplies them.
func sum(l ...*big.Rat) *big.Rat {
	all := new(big.Rat)
	for _, x := range l {
		all.Add(all, x)
	}
	return all
}

func product(l ...*big.Rat) *big.Rat {
	all := ratio(1, 1)
	for _, x := range l {
		all.Mul(all, x)
	}
	return all
}

// roundedUp is the least whole number that is not below a fraction that is at least 0.
func roundedUp(x *big.Rat) int {
	n := new(big.Int).Add(x.Num(), x.Denom())
	return int(n.Sub(n, big.NewInt(1)).Quo(n, x.Denom()).Int64())
}

// valueOf is the value of a curve, worked out from the words of the document.
func valueOf(l []hull.Point, x int) *big.Rat {
	for i := 1; i < len(l); i++ {
		if p, q := l[i-1], l[i]; p.X <= x && x <= q.X {
			return sum(ratio(p.Y, 1), product(ratio(q.Y-p.Y, 1), ratio(x-p.X, q.X-p.X)))
		}
	}
	return ratio(l[len(l)-1].Y, 1)
}

// resistanceOf is the resistance of a ship, worked out from the words of the document.
func resistanceOf(s hull.Ship, i ice.Ice, v int, channel bool) int {
	thick, ridge := valueOf(s.Ice, i.Thick), ratio(s.Ridge*i.Ridge, 1)
	if channel {
		thick, ridge = product(thick, ratio(s.Brash, 100)), ratio(0, 1)
	}
	thick = product(thick, ratio(1000+s.Slow*v, 1000))
	return roundedUp(sum(valueOf(s.Water, v), product(ratio(i.Conc, 100), sum(thick, ridge)), ratio(s.Press*i.Press, 1)))
}

// loadOf is the load of an ice, worked out from the words of the document.
func loadOf(i ice.Ice, v int, channel bool) int {
	switch {
	case i.Conc == 0:
		return 0
	case channel:
		return roundedUp(ratio(i.Thick*(100+v), 2)) + 2000*i.Press
	}
	return i.Thick*(100+v) + 300*i.Ridge + 2000*i.Press
}

// strengthOf is the strength of a ship.
func strengthOf(s hull.Ship) int { return []int{4000, 8000, 14000, 24000, 40000, 90000}[s.Class-1] }

// makes reports whether a ship can make a speed.
func makes(s hull.Ship, i ice.Ice, v int, channel bool) bool {
	top := s.Thrust[len(s.Thrust)-1].X
	y := valueOf(s.Thrust, min(v, top))
	return v <= top && int(new(big.Int).Quo(y.Num(), y.Denom()).Int64()) >= resistanceOf(s, i, v, channel)
}

// speedOf is the speed of a ship: all speeds are tried.
func speedOf(s hull.Ship, i ice.Ice, channel bool) int {
	for v := 250; v > 0; v-- {
		if is, _ := hull.Makes(s, i, v, channel); is {
			return v
		}
	}
	return 0
}

// face is a function of the package with some of the arguments that the functions take.
type face struct {
	name                     string
	ship, ice, cell, atSpeed bool
	call                     func(s hull.Ship, i ice.Ice, c ice.Cell, v int, channel bool) ([]any, api.Errno)
}

// faces are the functions that take a ship, an ice, a cell or a speed.
func faces() []face {
	return []face{
		{"Check", true, false, false, false, func(s hull.Ship, i ice.Ice, c ice.Cell, v int, channel bool) ([]any, api.Errno) {
			return nil, hull.Check(s)
		}},
		{"Thrust", true, false, false, true, func(s hull.Ship, i ice.Ice, c ice.Cell, v int, channel bool) ([]any, api.Errno) {
			n, e := hull.Thrust(s, v)
			return []any{n}, e
		}},
		{"Resistance", true, true, false, true, func(s hull.Ship, i ice.Ice, c ice.Cell, v int, channel bool) ([]any, api.Errno) {
			n, e := hull.Resistance(s, i, v, channel)
			return []any{n}, e
		}},
		{"Makes", true, true, false, true, func(s hull.Ship, i ice.Ice, c ice.Cell, v int, channel bool) ([]any, api.Errno) {
			is, e := hull.Makes(s, i, v, channel)
			return []any{is}, e
		}},
		{"Speed", true, true, false, false, func(s hull.Ship, i ice.Ice, c ice.Cell, v int, channel bool) ([]any, api.Errno) {
			n, e := hull.Speed(s, i, channel)
			return []any{n}, e
		}},
		{"Speeds", true, false, true, false, func(s hull.Ship, i ice.Ice, c ice.Cell, v int, channel bool) ([]any, api.Errno) {
			n, e := hull.Speeds(s, c, channel)
			return []any{n}, e
		}},
		{"Beset", true, false, true, false, func(s hull.Ship, i ice.Ice, c ice.Cell, v int, channel bool) ([]any, api.Errno) {
			one, all, e := hull.Beset(s, c, channel)
			return []any{one, all}, e
		}},
		{"Load", false, true, false, true, func(s hull.Ship, i ice.Ice, c ice.Cell, v int, channel bool) ([]any, api.Errno) {
			n, e := hull.Load(i, v, channel)
			return []any{n}, e
		}},
		{"Beyond", true, false, true, true, func(s hull.Ship, i ice.Ice, c ice.Cell, v int, channel bool) ([]any, api.Errno) {
			one, all, e := hull.Beyond(s, c, v, channel)
			return []any{one, all}, e
		}},
		{"Safe", true, false, true, false, func(s hull.Ship, i ice.Ice, c ice.Cell, v int, channel bool) ([]any, api.Errno) {
			n, e := hull.Safe(s, c, channel)
			return []any{n}, e
		}},
		{"Burn", true, true, false, true, func(s hull.Ship, i ice.Ice, c ice.Cell, v int, channel bool) ([]any, api.Errno) {
			n, e := hull.Burn(s, i, v, channel)
			return []any{n}, e
		}},
		{"Limit", true, false, false, true, func(s hull.Ship, i ice.Ice, c ice.Cell, v int, channel bool) ([]any, api.Errno) {
			n, e := hull.Limit(s, v, channel)
			return []any{n}, e
		}},
		{"Slower", true, false, false, false, func(s hull.Ship, i ice.Ice, c ice.Cell, v int, channel bool) ([]any, api.Errno) {
			n, e := hull.Slower(s, changed(func(s *hull.Ship) { s.Thrust[0].Y = 20000 }))
			return []any{n}, e
		}},
		{"Slower, the other one", true, false, false, false, func(s hull.Ship, i ice.Ice, c ice.Cell, v int, channel bool) ([]any, api.Errno) {
			n, e := hull.Slower(even(0), s)
			return []any{n}, e
		}},
		{"Leg", true, false, true, false, func(s hull.Ship, i ice.Ice, c ice.Cell, v int, channel bool) ([]any, api.Errno) {
			l, m, e := hull.Leg(s, []hull.Part{{Cell: c, Channel: channel, Length: 7}})
			if len(l) == 0 {
				l = nil
			}
			return []any{l, m}, e
		}},
		{"Free", true, false, true, false, func(s hull.Ship, i ice.Ice, c ice.Cell, v int, channel bool) ([]any, api.Errno) {
			m, e := hull.Free(s, c, []api.Span{sure(0)})
			return []any{m}, e
		}},
	}
}
