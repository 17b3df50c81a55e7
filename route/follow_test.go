package route_test

import (
	"math/rand/v2"
	"slices"
	"testing"

	"polynya/api"
	"polynya/hull"
	"polynya/ice"
	"polynya/route"
)

// P4.4: what follows.

// someIce makes an ice of a cell, often at the ends of its spans.
func someIce(r *rand.Rand, c ice.Cell) ice.Ice {
	in := func(s api.Span) int {
		return []int{s.Lo, s.Hi, s.Lo + r.IntN(s.Hi-s.Lo+1)}[r.IntN(3)]
	}
	return ice.Ice{Conc: in(c.Conc), Thick: in(c.Thick), Ridge: in(c.Ridge), Press: in(c.Press)}
}

// only is the cell of just one ice.
func only(x ice.Ice) ice.Cell {
	return ice.Cell{Conc: sure(x.Conc), Thick: sure(x.Thick), Ridge: sure(x.Ridge), Press: sure(x.Press)}
}

// isFine reports whether a ship is, in an ice, neither beset nor beyond her class, and can make a speed.
func isFine(s hull.Ship, x ice.Ice, v int, channel bool) bool {
	beset, _, e := hull.Beset(s, only(x), channel)
	beyond, _, f := hull.Beyond(s, only(x), v, channel)
	makes, g := hull.Makes(s, x, v, channel)
	return !beset && !beyond && makes && e == api.OK && f == api.OK && g == api.OK
}

// A ship that follows an accepted route is in no cell beset, nor beyond her class, for any ice in the charts.
func TestShipsThatFollowARoute(t *testing.T) {
	r := random()
	legs := 0
	for range 1500 {
		p := anyPlan(r, 4, 3, 3)
		l, _, e := route.Best(p)
		if e != api.OK {
			continue
		}
		if n, e := route.Accept(p, l); n != arrives(l) || e != api.OK {
			t.Fatal(p, l, n, e)
		}
		cell, tick := p.From, 0
		for _, leg := range l {
			legs++
			for ; tick < leg.Arrive; tick++ {
				v := leg.Speed
				if tick < leg.Depart {
					v = hull.MinSpeed
				} else {
					cell = leg.To
				}
				x := someIce(r, p.Charts[tick/6].Cells[cell])
				if !isFine(p.Ship, x, v, p.Channel[cell]) {
					t.Fatal(p, l, leg, cell, tick, x)
				}
			}
			cell = leg.To
		}
	}
	if legs < 500 {
		t.Error("too few legs", legs)
	}
}

// joined reports whether there is a way from From to To, from neighbour to neighbour, that goes through no cell of a wall.
func (m model) joined(wall []int) bool {
	seen, ahead := map[int]bool{m.From: true}, []int{m.From}
	for len(ahead) > 0 {
		cell := ahead[0]
		ahead = ahead[1:]
		for to := range m.Channel {
			if m.areNeighbours(cell, to) && !seen[to] && !slices.Contains(wall, to) {
				seen[to] = true
				ahead = append(ahead, to)
			}
		}
	}
	return seen[m.To]
}

// Where no route is accepted, the table proves it, and each way goes through the wall, which no leg that she can take enters; where one is, nothing is proved.
func TestRefusals(t *testing.T) {
	r := random()
	refused, walls := 0, 0
	for range 1000 {
		p := anyPlan(r, 4, 4, 2)
		m := modelOf(p)
		_, _, blocked := route.Best(p)
		table, e := route.Table(p)
		is, f := route.Proves(p, table)
		wall, g := route.Wall(p)
		if e != api.OK || f != api.OK || is != (blocked == api.ErrBlocked) || is != (g == api.OK) {
			t.Fatal(p, blocked, table, is, wall, e, f, g)
		}
		if !is {
			continue
		}
		refused++
		walls += len(wall)
		if slices.Contains(wall, p.From) || m.joined(wall) {
			t.Fatal("a way around", p, wall)
		}
		for tick, cells := range table {
			for _, cell := range cells {
				if slices.Contains(wall, cell) {
					t.Fatal("a cell of the wall in the table", p, wall, tick)
				}
				for _, l := range m.options(cell, tick) {
					if slices.Contains(wall, l.To) {
						t.Fatal("a leg enters the wall", p, wall, l)
					}
				}
			}
		}
	}
	if refused < 200 || walls < 200 {
		t.Error("too few refusals", refused, walls)
	}
}

// No accepted route arrives before the best one, and the best one not before Hope.
func TestNoRouteIsFaster(t *testing.T) {
	r := random()
	routes := 0
	for range 400 {
		p := anyPlan(r, 3, 3, 2)
		m := modelOf(p)
		_, best, e := route.Best(p)
		hope, f := route.Hope(p)
		if e == api.OK && (f != api.OK || hope > best) {
			t.Fatal(p, best, hope, f)
		}
		for range 40 {
			l, cell, tick := []route.Leg{}, p.From, 0
			for cell != p.To && tick < m.end {
				legs := m.options(cell, tick)
				if len(legs) == 0 {
					break
				}
				l = append(l, legs[r.IntN(len(legs))])
				cell, tick = l[len(l)-1].To, l[len(l)-1].Arrive
			}
			n, f := route.Accept(p, l)
			if f != api.OK {
				continue
			}
			routes++
			if e != api.OK || n < best {
				t.Fatal(p, l, n, best, e)
			}
		}
	}
	if routes < 500 {
		t.Error("too few routes", routes)
	}
}

// narrowed is a plan whose charts are inside those of another one, with more channels.
func narrowed(r *rand.Rand, p route.Plan) route.Plan {
	p = copied(p)
	for i := range p.Charts {
		for k, c := range p.Charts[i].Cells {
			if r.IntN(2) == 0 {
				p.Charts[i].Cells[k], _ = ice.Hull(only(someIce(r, c)), only(someIce(r, c)))
			}
		}
	}
	for k := range p.Channel {
		p.Channel[k] = p.Channel[k] || r.IntN(4) == 0
	}
	return p
}

// Charts inside others, and more channels, have no later arrival; what is proved of them is true: what they let a ship do is not less.
func TestNarrowerCharts(t *testing.T) {
	r := random()
	sooner := 0
	for range 1000 {
		p := anyPlan(r, 4, 4, 2)
		q := narrowed(r, p)
		l, n, e := route.Best(p)
		_, k, f := route.Best(q)
		if e == api.OK && (f != api.OK || k > n) {
			t.Fatal(p, q, n, k, f)
		}
		if f == api.OK && (e != api.OK || k < n) {
			sooner++
		}
		if m, g := route.Accept(q, l); e == api.OK && (g != api.OK || m != n) {
			t.Fatal("a route that is not accepted any more", p, q, l, g)
		}
		// What holds for the narrower charts and cannot be got through is a proof for the wider ones.
		table, _ := route.Table(q)
		if is, _ := route.Proves(q, table); is {
			if is, g := route.Proves(p, table); !is || g != api.OK {
				t.Fatal("a proof that does not hold", p, q, table, g)
			}
		}
	}
	if sooner < 50 {
		t.Error("too few that arrive sooner", sooner)
	}
}
