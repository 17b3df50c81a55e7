package route_test

import (
	"cmp"
	"math/rand/v2"
	"slices"
	"strings"

	"polynya/api"
	"polynya/drift"
	"polynya/hull"
	"polynya/ice"
	"polynya/route"
)

// wild are numbers at and beyond limits.
var wild = []int{-1 << 63, -1 << 62, -1 << 32, -1, 0, 1, 2, 3, 5, 6, 7, 9, 10, 12, 48, 49, 250, 251, 288, 289, 500, 501, 1 << 32, 1 << 62, 1<<63 - 2, 1<<63 - 1}

func span(lo, hi int) api.Span { return api.Span{Lo: lo, Hi: hi} }

// sure is the span of one number.
func sure(n int) api.Span { return span(n, n) }

// level is a cell of level ice.
func level(lo, hi int) ice.Cell { return ice.Cell{Conc: sure(100), Thick: span(lo, hi)} }

// heavy is ice in which the ship of the examples may be beset, and may not: at its least it is open water.
func heavy() ice.Cell {
	return ice.Cell{Conc: span(0, 100), Thick: span(0, 150), Press: span(0, 3)}
}

// closed is ice in which the ship of the examples is beset whatever it is.
func closed() ice.Cell { return ice.Cell{Conc: sure(100), Thick: sure(400), Press: sure(3)} }

// curve makes points from X and Y in turn.
func curve(n ...int) []hull.Point {
	var l []hull.Point
	for i := 0; i < len(n); i += 2 {
		l = append(l, hull.Point{X: n[i], Y: n[i+1]})
	}
	return l
}

// example is the ship of layer 3's examples: her safe speed is 160 in open water, 135 in level ice of 50, 155 there in a channel.
func example() hull.Ship {
	return hull.Ship{
		Class: 3, Power: 6000, Draught: 800, Tonnes: 9000,
		Thrust: curve(0, 1000, 100, 800, 200, 0), Water: curve(0, 0, 200, 400), Ice: curve(0, 0, 400, 2000),
		Brash: 20, Ridge: 10, Press: 100,
	}
}

// upTo is a ship whom no ice resists, and whose safe speed is so great in any that is within her class.
func upTo(speed int) hull.Ship {
	return hull.Ship{
		Class: 6, Power: 100, Draught: 10, Tonnes: 10,
		Thrust: curve(0, 1, speed, 1), Water: curve(0, 0, speed, 0), Ice: curve(0, 0, 400, 0),
	}
}

// plan makes a plan of some hours from its rows, in which # is land and other cells are open water, from < to > (by default from the first cell to the last one): with Size 80, a leg takes three ticks at 160.
func plan(hours int, rows ...string) route.Plan {
	all := strings.Join(rows, "")
	p := route.Plan{
		Basin: drift.Basin{W: len(rows[0]), H: len(rows)}, Channel: make([]bool, len(all)),
		Ship: example(), Size: 80, To: len(all) - 1,
	}
	for i, c := range all {
		p.Basin.Land = append(p.Basin.Land, c == '#')
		switch c {
		case '<':
			p.From = i
		case '>':
			p.To = i
		}
	}
	for i := range hours {
		p.Charts = append(p.Charts, ice.Chart{W: p.Basin.W, H: p.Basin.H, Hour: 7 + i, Cells: make([]ice.Cell, len(all))})
	}
	return p
}

// put has ice put into a cell in some hours; in all if none is named.
func put(p route.Plan, c ice.Cell, cell int, hours ...int) {
	for i := range p.Charts {
		if len(hours) == 0 || slices.Contains(hours, i) {
			p.Charts[i].Cells[cell] = c
		}
	}
}

// copied is a plan that shares no memory with another one.
func copied(p route.Plan) route.Plan {
	p.Basin.Land, p.Channel, p.Charts = slices.Clone(p.Basin.Land), slices.Clone(p.Channel), slices.Clone(p.Charts)
	p.Ship.Thrust, p.Ship.Water, p.Ship.Ice = slices.Clone(p.Ship.Thrust), slices.Clone(p.Ship.Water), slices.Clone(p.Ship.Ice)
	for i := range p.Charts {
		p.Charts[i].Cells = slices.Clone(p.Charts[i].Cells)
	}
	return p
}

// changed is a plan of two hours, three cells in a row, with something changed.
func changed(change func(p *route.Plan)) route.Plan {
	p := plan(2, "...")
	change(&p)
	return p
}

func sameLists(a, b [][]int) bool {
	return slices.EqualFunc(a, b, func(x, y []int) bool { return slices.Equal(x, y) })
}

// random makes the same numbers in each run.
func random() *rand.Rand { return rand.New(rand.NewPCG(41, 73)) }

// anyIce makes a cell that is often open, often slow, and sometimes closed.
func anyIce(r *rand.Rand) ice.Cell {
	thick := r.IntN(90)
	switch r.IntN(6) {
	case 0, 1:
		return ice.Cell{}
	case 2:
		return level(thick, thick)
	case 3:
		return ice.Cell{Conc: span(r.IntN(50), 50+r.IntN(51)), Thick: span(thick, thick+r.IntN(80)), Ridge: span(0, r.IntN(8)), Press: span(0, r.IntN(2))}
	case 4:
		return heavy()
	}
	return closed()
}

// anyPlan makes a plan of at most so many columns, rows and hours, in which a leg takes from one tick on.
func anyPlan(r *rand.Rand, w, h, hours int) route.Plan {
	rows := make([]string, 1+r.IntN(h))
	w = 2 + r.IntN(w-1)
	for y := range rows {
		for range w {
			rows[y] += string("..#...."[r.IntN(7)])
		}
	}
	p := plan(1+r.IntN(hours), rows...)
	p.Size = 10 + r.IntN(90)
	p.From, p.To = r.IntN(len(p.Channel)), r.IntN(len(p.Channel))
	p.Basin.Land[p.From], p.Basin.Land[p.To] = false, false
	for cell := range p.Channel {
		p.Channel[cell] = r.IntN(4) == 0
		put(p, anyIce(r), cell)
		if r.IntN(2) == 0 {
			put(p, anyIce(r), cell, r.IntN(len(p.Charts)))
		}
	}
	return p
}

// model is a plan with its safe speeds by hour and cell, 0 where there is none; what is told by it is worked out from the words of the document.
type model struct {
	route.Plan
	safe [][]int
	end  int
}

func modelOf(p route.Plan) model {
	m := model{Plan: p, end: 6 * len(p.Charts)}
	for _, c := range p.Charts {
		var l []int
		for cell, x := range c.Cells {
			v, _ := hull.Safe(p.Ship, x, p.Channel[cell])
			l = append(l, v)
		}
		m.safe = append(m.safe, l)
	}
	return m
}

// areNeighbours reports whether two cells are sea and have a side in common.
func (m model) areNeighbours(a, b int) bool {
	far := func(a, b int) int { return max(a-b, b-a) }
	return !m.Basin.Land[a] && !m.Basin.Land[b] && far(a%m.Basin.W, b%m.Basin.W)+far(a/m.Basin.W, b/m.Basin.W) == 1
}

// ticks is how many ticks a leg takes at a speed.
func (m model) ticks(v int) int {
	n := 0
	for n*v < 6*m.Size {
		n++
	}
	return n
}

// allowed reports whether a leg that begins in a cell is allowed.
func (m model) allowed(l route.Leg) bool {
	if l.Arrive > m.end {
		return false
	}
	for t := l.Depart; t < l.Arrive; t++ {
		if m.safe[t/6][l.To] < l.Speed {
			return false
		}
	}
	return true
}

// waits reports whether a wait in a cell from a tick to another one is allowed.
func (m model) waits(cell, from, to int) bool {
	for t := from; t < to; t++ {
		if t >= m.end || m.safe[t/6][cell] == 0 {
			return false
		}
	}
	return true
}

// options are the allowed legs from a cell at a tick, for each neighbour and each Arrive the one with the greatest speed: all speeds are tried.
func (m model) options(cell, tick int) []route.Leg {
	var l []route.Leg
	for to := range m.Channel {
		if !m.areNeighbours(cell, to) {
			continue
		}
		for v := 250; v >= 10; v-- {
			leg := route.Leg{To: to, Depart: tick, Speed: v, Arrive: tick + m.ticks(v)}
			before := len(l) > 0 && l[len(l)-1].To == to && l[len(l)-1].Arrive == leg.Arrive
			if !before && m.allowed(leg) {
				l = append(l, leg)
			}
		}
	}
	return l
}

// table is the table of the plan.
func (m model) table() [][]int {
	can := make([][]bool, m.end+1)
	for t := range can {
		can[t] = make([]bool, len(m.Channel))
	}
	can[0][m.From] = true
	table := make([][]int, m.end+1)
	for t := range can {
		for cell, is := range can[t] {
			if !is {
				continue
			}
			table[t] = append(table[t], cell)
			if t < m.end && m.waits(cell, t, t+1) {
				can[t+1][cell] = true
			}
			for _, l := range m.options(cell, t) {
				can[l.Arrive][l.To] = true
			}
		}
	}
	return table
}

// routes calls yield for each accepted route whose legs have their greatest speeds. They are many: the plan must be small.
func (m model) routes(yield func(l []route.Leg)) {
	var on func(l []route.Leg, cell, tick int)
	on = func(l []route.Leg, cell, tick int) {
		if cell == m.To {
			yield(l)
		}
		for depart := tick; depart < m.end && m.waits(cell, tick, depart); depart++ {
			for _, leg := range m.options(cell, depart) {
				on(append(l[:len(l):len(l)], leg), leg.To, leg.Arrive)
			}
		}
	}
	on(nil, m.From, 0)
}

// arrives is when a route arrives.
func arrives(l []route.Leg) int {
	if len(l) == 0 {
		return 0
	}
	return l[len(l)-1].Arrive
}

// compare tells which of two routes is better: the one that arrives first, has fewer legs, or is less.
func compare(a, b []route.Leg) int {
	return cmp.Or(cmp.Compare(arrives(a), arrives(b)), cmp.Compare(len(a), len(b)), slices.CompareFunc(a, b, func(x, y route.Leg) int {
		return cmp.Or(cmp.Compare(x.To, y.To), cmp.Compare(x.Depart, y.Depart), cmp.Compare(x.Arrive, y.Arrive))
	}))
}

// best is the best of all accepted routes, and whether there is one.
func (m model) best() ([]route.Leg, bool) {
	var best []route.Leg
	is := false
	m.routes(func(l []route.Leg) {
		if !is || compare(l, best) < 0 {
			best, is = l, true
		}
	})
	return best, is
}

// face is a function of the package, called with a plan and arguments that are right for "..." in two hours.
type face struct {
	name string
	call func(p route.Plan) ([]any, api.Errno)
}

// faces are all functions.
func faces() []face {
	return []face{
		{"Check", func(p route.Plan) ([]any, api.Errno) { return nil, route.Check(p) }},
		{"Safe", func(p route.Plan) ([]any, api.Errno) {
			n, e := route.Safe(p, 1, 1)
			return []any{n}, e
		}},
		{"Options", func(p route.Plan) ([]any, api.Errno) {
			l, e := route.Options(p, 1, 2)
			return []any{l}, e
		}},
		{"Accept", func(p route.Plan) ([]any, api.Errno) {
			n, e := route.Accept(p, twoLegs())
			return []any{n}, e
		}},
		{"Margin", func(p route.Plan) ([]any, api.Errno) {
			n, e := route.Margin(p, twoLegs())
			return []any{n}, e
		}},
		{"Best", func(p route.Plan) ([]any, api.Errno) {
			l, n, e := route.Best(p)
			return []any{l, n}, e
		}},
		{"Table", func(p route.Plan) ([]any, api.Errno) {
			l, e := route.Table(p)
			return []any{l}, e
		}},
		{"Proves", func(p route.Plan) ([]any, api.Errno) {
			is, e := route.Proves(p, make([][]int, 13))
			return []any{is}, e
		}},
		{"Wall", func(p route.Plan) ([]any, api.Errno) {
			l, e := route.Wall(p)
			return []any{l}, e
		}},
		{"Hope", func(p route.Plan) ([]any, api.Errno) {
			n, e := route.Hope(p)
			return []any{n}, e
		}},
	}
}

// twoLegs is the best route through three cells of open water.
func twoLegs() []route.Leg {
	return []route.Leg{{To: 1, Depart: 0, Speed: 160, Arrive: 3}, {To: 2, Depart: 3, Speed: 160, Arrive: 6}}
}
