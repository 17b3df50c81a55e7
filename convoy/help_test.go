package convoy_test

import (
	"math/rand/v2"
	"slices"

	"polynya/api"
	"polynya/convoy"
	"polynya/hull"
	"polynya/ice"
)

// span makes a span.
func span(lo, hi int) api.Span { return api.Span{Lo: lo, Hi: hi} }

// sure is the span of one number.
func sure(n int) api.Span { return span(n, n) }

// level is a cell of level ice without pressure.
func level(lo, hi int) ice.Cell { return ice.Cell{Conc: sure(100), Thick: span(lo, hi)} }

// pressed is a cell of level ice of 40 to 60, with a pressure.
func pressed(lo, hi int) ice.Cell {
	c := level(40, 60)
	c.Press = span(lo, hi)
	return c
}

// curve makes points from X and Y in turn.
func curve(n ...int) []hull.Point {
	var l []hull.Point
	for i := 0; i < len(n); i += 2 {
		l = append(l, hull.Point{X: n[i], Y: n[i+1]})
	}
	return l
}

// ship is the ship of the examples of layer 3: she makes 130 in level ice of 40 to 60, and in a channel 154.
func ship() hull.Ship {
	return hull.Ship{
		Class: 3, Power: 6000, Draught: 800, Tonnes: 9000,
		Thrust: curve(0, 1000, 100, 800, 200, 0), Water: curve(0, 0, 200, 400), Ice: curve(0, 0, 400, 2000),
		Brash: 20, Ridge: 10, Press: 100,
	}
}

// member is that of the chapter's examples.
func member() convoy.Member {
	return convoy.Member{Ship: ship(), Stop: curve(0, 0, 200, 1000), Length: 120, Delay: 30, Short: 100}
}

// like is the member of the examples with something changed.
func like(change func(m *convoy.Member)) convoy.Member {
	m := member()
	change(&m)
	return m
}

// lead is the convoy of the examples, with so many ships.
func lead(ships int) convoy.Convoy {
	c := convoy.Convoy{Breaker: member(), Clear: 50, Close: [4]int{60, 5, 2, 0}}
	for range ships {
		c.Ships = append(c.Ships, member())
	}
	return c
}

// changed is the convoy of the examples, with two ships and something changed.
func changed(change func(c *convoy.Convoy)) convoy.Convoy {
	c := lead(2)
	change(&c)
	return c
}

// numbered is a convoy of ships whose Length tells which one they are.
func numbered(ships int) convoy.Convoy {
	c := lead(ships)
	for i := range c.Ships {
		c.Ships[i].Length = 101 + i
	}
	return c
}

// lengths are those of the ships of a convoy.
func lengths(c convoy.Convoy) []int {
	var l []int
	for _, m := range c.Ships {
		l = append(l, m.Length)
	}
	return l
}

// steep is a convoy of one ship, who needs much more room from the speed 60 on than at 50: the tail passes up to 58, and from 71 on.
func steep() convoy.Convoy {
	return convoy.Convoy{
		Breaker: like(func(m *convoy.Member) { m.Short = 0 }),
		Ships:   []convoy.Member{like(func(m *convoy.Member) { m.Stop, m.Delay = curve(0, 0, 50, 0, 60, 2000, 200, 2000), 0 })},
		Clear:   50, Close: [4]int{10, 10, 10, 10},
	}
}

// random makes the same numbers in each run.
func random() *rand.Rand { return rand.New(rand.NewPCG(53, 71)) }

// anyStop makes a Stop up to an X, which is often flat but for a step.
func anyStop(r *rand.Rand, top int) []hull.Point {
	if r.IntN(2) == 0 {
		x, low, high := 10+r.IntN(60), r.IntN(100), 100+r.IntN(1500)
		return curve(0, 0, x, low, x+1+r.IntN(10), high, top, high+r.IntN(100))
	}
	n := 2 + r.IntN(7)
	x, y := r.Perm(top - 1)[:n-2], make([]int, n-1)
	slices.Sort(x)
	most := []int{100, 700, 2000}[r.IntN(3)]
	for i := range y {
		y[i] = r.IntN(most + 1)
	}
	slices.Sort(y)
	l := curve(0, 0)
	for i, x := range append(x, top-1) {
		l = append(l, hull.Point{X: x + 1, Y: y[i]})
	}
	return l
}

// anyMember makes a member who can go in some ice, and not in all.
func anyMember(r *rand.Rand) convoy.Member {
	s := ship()
	s.Class = 3 + r.IntN(4)
	top := 100 + r.IntN(151)
	s.Thrust = curve(0, 600+r.IntN(1500), top-50, 500+r.IntN(100), top, r.IntN(300))
	s.Brash, s.Ridge, s.Press, s.Slow = r.IntN(101), r.IntN(20), r.IntN(200), r.IntN(10)
	return convoy.Member{
		Ship: s, Stop: anyStop(r, top+r.IntN(251-top)),
		Length: 10 + r.IntN(200), Delay: []int{0, r.IntN(60)}[r.IntN(2)], Short: []int{0, r.IntN(1000), 20000}[r.IntN(3)],
	}
}

// anyConvoy makes a convoy with at most so many ships, some of them equal, whose tail passes at some speeds, and not at all.
func anyConvoy(r *rand.Rand, most int) convoy.Convoy {
	c := convoy.Convoy{Breaker: anyMember(r), Clear: r.IntN(100)}
	for i := range r.IntN(most + 1) {
		m := anyMember(r)
		if i > 0 && r.IntN(4) == 0 {
			m = c.Ships[r.IntN(i)]
		}
		c.Ships = append(c.Ships, m)
	}
	for i := range c.Close {
		c.Close[i] = r.IntN(12 * (1 + len(c.Ships)))
	}
	slices.SortFunc(c.Close[:], func(a, b int) int { return b - a })
	return c
}

// around makes a span that has a number, and at most so many more on either side.
func around(r *rand.Rand, n, most, wide int) api.Span {
	return span(max(n-r.IntN(wide+1), 0), min(n+r.IntN(wide+1), most))
}

// anyCell makes a cell in which many ships can go.
func anyCell(r *rand.Rand) ice.Cell {
	return ice.Cell{
		Conc: around(r, 50+r.IntN(51), 100, 10), Thick: around(r, r.IntN(1+r.IntN(80)), 400, 9),
		Ridge: around(r, r.IntN(5), 100, 2), Press: around(r, r.IntN(1+r.IntN(4)), 3, 1),
	}
}

// copied is a convoy that shares no memory with another one.
func copied(c convoy.Convoy) convoy.Convoy {
	each := func(m convoy.Member) convoy.Member {
		s := &m.Ship
		s.Thrust, s.Water, s.Ice, m.Stop = slices.Clone(s.Thrust), slices.Clone(s.Water), slices.Clone(s.Ice), slices.Clone(m.Stop)
		return m
	}
	c.Breaker, c.Ships = each(c.Breaker), slices.Clone(c.Ships)
	for i, m := range c.Ships {
		c.Ships[i] = each(m)
	}
	return c
}

// rounded is a number that is at least 0 by another one, rounded down and up.
func rounded(n, by int) (int, int) {
	if n%by == 0 {
		return n / by, n / by
	}
	return n / by, n/by + 1
}

// wayOf is the way, rounded down and up, worked out from the words of the document.
func wayOf(v, seconds int) (int, int) { return rounded(463*v*seconds, 9000) }

// stopOf is the value of Stop, rounded down and up, worked out from the words of the document.
func stopOf(m convoy.Member, v int) (int, int) {
	for i, q := range m.Stop[1:] {
		if p := m.Stop[i]; v <= q.X {
			return rounded(p.Y*(q.X-p.X)+(q.Y-p.Y)*(v-p.X), q.X-p.X)
		}
	}
	return rounded(m.Stop[len(m.Stop)-1].Y, 1)
}

// haltOf are the Near and the Far, worked out from the words of the document.
func haltOf(m convoy.Member, v int) api.Span {
	_, before := wayOf(v, m.Delay)
	down, up := stopOf(m, v)
	return span(min(m.Short, down), before+up)
}

// gapsOf are the gaps, worked out from the words of the document.
func gapsOf(c convoy.Convoy, v int) []int {
	var l []int
	near := haltOf(c.Breaker, v).Lo
	for _, m := range c.Ships {
		gap, h := c.Clear, haltOf(m, v)
		if h.Hi > near {
			gap += h.Hi - near
		}
		l = append(l, gap)
		near = h.Lo
	}
	return l
}

// tailOf is the tail, worked out from the words of the document.
func tailOf(c convoy.Convoy, v int) int {
	n := 0
	for i, gap := range gapsOf(c, v) {
		n += gap + c.Ships[i].Length
	}
	return n
}

// speedsOf are the speeds that hold, one by one, worked out from the words of the document.
func speedsOf(c convoy.Convoy, cell ice.Cell) []int {
	least, e := hull.Safe(c.Breaker.Ship, cell, false)
	if e != api.OK {
		return nil
	}
	for _, m := range c.Ships {
		safe, e := hull.Safe(m.Ship, cell, true)
		if e != api.OK {
			return nil
		}
		least = min(least, safe)
	}
	var l []int
	for v := 10; v <= least; v++ {
		if open, _ := wayOf(v, 60*c.Close[cell.Press.Hi]); tailOf(c, v) <= open {
			l = append(l, v)
		}
	}
	return l
}

// fastestOf is the greatest speed that holds, 0 if there is none.
func fastestOf(c convoy.Convoy, cell ice.Cell) int {
	l := speedsOf(c, cell)
	if len(l) == 0 {
		return 0
	}
	return l[len(l)-1]
}

// inOrder is a convoy with its ships in another order, in the memory of the old one.
func inOrder(c convoy.Convoy, order []int) convoy.Convoy {
	ships := c.Ships
	c.Ships = nil
	for _, i := range order {
		c.Ships = append(c.Ships, ships[i])
	}
	return c
}

// allOrders are all orders of so many ships, in lexicographic order: of those of one ship less, each one is preceded by each ship.
func allOrders(ships int) [][]int {
	if ships == 0 {
		return [][]int{{}}
	}
	var l [][]int
	for first := range ships {
		for _, rest := range allOrders(ships - 1) {
			order := []int{first}
			for _, i := range rest {
				if i >= first {
					i++
				}
				order = append(order, i)
			}
			l = append(l, order)
		}
	}
	return l
}

// face is a function of the package with some of the arguments that the functions take.
type face struct {
	name                          string
	convoy, member, cell, atSpeed bool
	call                          func(c convoy.Convoy, m convoy.Member, cell ice.Cell, v int) ([]any, api.Errno)
}

// faces are the functions that take a convoy, a member, a cell or a speed.
func faces() []face {
	return []face{
		{"Check", true, false, false, false, func(c convoy.Convoy, m convoy.Member, cell ice.Cell, v int) ([]any, api.Errno) {
			return nil, convoy.Check(c)
		}},
		{"Way", false, false, false, true, func(c convoy.Convoy, m convoy.Member, cell ice.Cell, v int) ([]any, api.Errno) {
			down, up, e := convoy.Way(v, 60)
			return []any{down, up}, e
		}},
		{"Halt", false, true, false, true, func(c convoy.Convoy, m convoy.Member, cell ice.Cell, v int) ([]any, api.Errno) {
			h, e := convoy.Halt(m, v)
			return []any{h}, e
		}},
		{"Gaps", true, false, false, true, func(c convoy.Convoy, m convoy.Member, cell ice.Cell, v int) ([]any, api.Errno) {
			l, e := convoy.Gaps(c, v)
			return []any{l}, e
		}},
		{"Tail", true, false, false, true, func(c convoy.Convoy, m convoy.Member, cell ice.Cell, v int) ([]any, api.Errno) {
			n, e := convoy.Tail(c, v)
			return []any{n}, e
		}},
		{"Open", true, false, false, true, func(c convoy.Convoy, m convoy.Member, cell ice.Cell, v int) ([]any, api.Errno) {
			n, e := convoy.Open(c, v, 0)
			return []any{n}, e
		}},
		{"Open, with a wrong Press", true, false, false, true, func(c convoy.Convoy, m convoy.Member, cell ice.Cell, v int) ([]any, api.Errno) {
			n, e := convoy.Open(c, v, 4)
			return []any{n}, e
		}},
		{"Holds", true, false, true, true, func(c convoy.Convoy, m convoy.Member, cell ice.Cell, v int) ([]any, api.Errno) {
			is, e := convoy.Holds(c, cell, v)
			return []any{is}, e
		}},
		{"Speeds", true, false, true, false, func(c convoy.Convoy, m convoy.Member, cell ice.Cell, v int) ([]any, api.Errno) {
			l, e := convoy.Speeds(c, cell)
			return []any{l}, e
		}},
		{"Fastest", true, false, true, false, func(c convoy.Convoy, m convoy.Member, cell ice.Cell, v int) ([]any, api.Errno) {
			n, e := convoy.Fastest(c, cell)
			return []any{n}, e
		}},
		{"Ordered", true, false, false, false, func(c convoy.Convoy, m convoy.Member, cell ice.Cell, v int) ([]any, api.Errno) {
			x, e := convoy.Ordered(c, []int{-1})
			return []any{x}, e
		}},
		{"Best", true, false, true, false, func(c convoy.Convoy, m convoy.Member, cell ice.Cell, v int) ([]any, api.Errno) {
			l, n, e := convoy.Best(c, cell)
			return []any{l, n}, e
		}},
		{"Join", true, true, false, false, func(c convoy.Convoy, m convoy.Member, cell ice.Cell, v int) ([]any, api.Errno) {
			x, e := convoy.Join(c, m, -1)
			return []any{x}, e
		}},
		{"Leave", true, false, false, false, func(c convoy.Convoy, m convoy.Member, cell ice.Cell, v int) ([]any, api.Errno) {
			x, e := convoy.Leave(c, -1)
			return []any{x}, e
		}},
		{"Split", true, false, true, false, func(c convoy.Convoy, m convoy.Member, cell ice.Cell, v int) ([]any, api.Errno) {
			l, e := convoy.Split(c, cell)
			return []any{l}, e
		}},
		{"Rest", true, false, false, true, func(c convoy.Convoy, m convoy.Member, cell ice.Cell, v int) ([]any, api.Errno) {
			l, e := convoy.Rest(c, v, []int{-1}, -1, []int{-1})
			return []any{l}, e
		}},
		{"Leg", true, false, true, false, func(c convoy.Convoy, m convoy.Member, cell ice.Cell, v int) ([]any, api.Errno) {
			l, n, e := convoy.Leg(c, []hull.Part{{Cell: cell, Length: 7}})
			return []any{l, n}, e
		}},
	}
}
