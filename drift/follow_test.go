package drift_test

import (
	"math/rand/v2"
	"slices"
	"testing"

	"polynya/api"
	"polynya/drift"
	"polynya/ice"
)

// becomes is what a quantity can become in an hour at rates of so much a day.
func becomes(r *rand.Rand, n, up, down, most int) int {
	n += r.IntN((up+23)/24+(down+23)/24+1) - (down+23)/24
	return min(max(n, 0), most)
}

// aged is a field an hour later, in which each ice has changed within the rates.
func aged(r *rand.Rand, b drift.Basin, field []ice.Ice, m ice.Rates) []ice.Ice {
	l := make([]ice.Ice, len(field))
	for i, x := range field {
		if !b.Land[i] {
			l[i] = ice.Ice{
				Conc:  becomes(r, x.Conc, m.Up.Conc, m.Down.Conc, 100),
				Thick: becomes(r, x.Thick, m.Up.Thick, m.Down.Thick, 400),
				Ridge: becomes(r, x.Ridge, m.Up.Ridge, m.Down.Ridge, 100),
				Press: becomes(r, x.Press, m.Up.Press, m.Down.Press, 3),
			}
		}
	}
	return l
}

// P2.5: whichever moves the ice takes, the chart holds what becomes of the field, and Conc is kept.
func TestTheChartHoldsTheField(t *testing.T) {
	r := random()
	for k := range 150 {
		b := anyBasin(r, 8, 8)
		field, c := anyField(r, b, 1+k%30)
		var l [][]drift.Flow
		for range 8 {
			l = append(l, anyFlows(r, b, []int{0, 500, 1500}[k%3]))
		}
		n := func() int { return r.IntN([]int{1, 30, 300}[k/3%3]) }
		m := ice.Rates{Up: ice.Ice{Conc: n(), Thick: n(), Ridge: n(), Press: n()}, Down: ice.Ice{Conc: n(), Thick: n(), Ridge: n(), Press: n()}}
		run, e := drift.Run(b, l, c, m)
		if e != api.OK {
			t.Fatal(e)
		}
		for i, flows := range l {
			before := 0
			for _, x := range field {
				before += x.Conc
			}
			step, e := drift.Step(b, flows, run[i])
			if e != api.OK {
				t.Fatal(e)
			}
			next, over, e := drift.Drift(b, flows, field, anyMoves(r, b, flows))
			if is, f := ice.Holds(step, next); !is || e != api.OK || f != api.OK {
				t.Fatal(b, flows, run[i], step, field, next, e, f)
			}
			for i, x := range next {
				before -= x.Conc + over[i]
			}
			if before != 0 {
				t.Fatal(b, flows, field, next, over)
			}
			field = aged(r, b, next, m)
			if is, e := ice.Holds(run[i+1], field); !is || e != api.OK {
				t.Fatal(b, flows, run[i+1], field, e)
			}
		}
	}
}

// corners are all fields of a chart in which each cell has its least, or its greatest ice.
func corners(c ice.Chart) [][]ice.Ice {
	l := [][]ice.Ice{{}}
	for _, x := range c.Cells {
		least := ice.Ice{Conc: x.Conc.Lo, Thick: x.Thick.Lo, Ridge: x.Ridge.Lo, Press: x.Press.Lo}
		greatest := ice.Ice{Conc: x.Conc.Hi, Thick: x.Thick.Hi, Ridge: x.Ridge.Hi, Press: x.Press.Hi}
		var next [][]ice.Ice
		for _, f := range l {
			next = append(next, append(slices.Clone(f), least))
			if least != greatest {
				next = append(next, append(slices.Clone(f), greatest))
			}
		}
		l = next
	}
	return l
}

// ways are all lists of moves that flows have; those of land are none.
func ways(b drift.Basin, flows []drift.Flow) [][]drift.Move {
	l := [][]drift.Move{{}}
	for i, f := range flows {
		can := movesOf(f)
		if b.Land[i] {
			can = []drift.Move{{}}
		}
		var next [][]drift.Move
		for _, x := range l {
			for _, m := range can {
				next = append(next, append(slices.Clone(x), m))
			}
		}
		l = next
	}
	return l
}

// P2.5: nothing less would do.
func TestTheChartHasNothingElse(t *testing.T) {
	r := random()
	for range 60 {
		b := anyBasin(r, 2, 2)
		if r.IntN(2) == 0 {
			b = anyBasin(r, 4, 1)
		}
		flows := anyFlows(r, b, 300)
		_, c := anyField(r, b, 1)
		n, e := drift.Step(b, flows, c)
		if e != api.OK {
			t.Fatal(e)
		}
		var hull []ice.Cell
		least, greatest := make([]bool, len(n.Cells)), make([]bool, len(n.Cells))
		for _, field := range corners(c) {
			for _, moves := range ways(b, flows) {
				after, _ := drifted(b, field, moves)
				if hull == nil {
					for _, x := range after {
						hull = append(hull, only(x))
					}
				}
				for i, x := range after {
					hull[i], _ = ice.Hull(hull[i], only(x))
					s := n.Cells[i]
					least[i] = least[i] || x == ice.Ice{Conc: s.Conc.Lo, Thick: s.Thick.Lo, Ridge: s.Ridge.Lo, Press: s.Press.Lo}
					greatest[i] = greatest[i] || x == ice.Ice{Conc: s.Conc.Hi, Thick: s.Thick.Hi, Ridge: s.Ridge.Hi, Press: s.Press.Hi}
				}
			}
		}
		if !slices.Equal(n.Cells, hull) || slices.Contains(least, false) || slices.Contains(greatest, false) {
			t.Fatal(b, flows, c, n, hull)
		}
	}
}

// narrower makes a span inside another one.
func narrower(r *rand.Rand, s api.Span) api.Span {
	lo := s.Lo + r.IntN(s.Hi-s.Lo+1)
	return span(lo, lo+r.IntN(s.Hi-lo+1))
}

// P2.5: a chart inside another one stays inside it, and flows that are inside others give a chart inside theirs.
func TestInsideStaysInside(t *testing.T) {
	r := random()
	for range 200 {
		b := anyBasin(r, 6, 6)
		_, c := anyField(r, b, 1)
		flows := anyFlows(r, b, 2500)
		wide, e := drift.Step(b, flows, c)
		if e != api.OK {
			t.Fatal(e)
		}
		d, less := calm(b), slices.Clone(flows)
		for i, x := range c.Cells {
			d.Cells[i] = ice.Cell{Conc: narrower(r, x.Conc), Thick: narrower(r, x.Thick), Ridge: narrower(r, x.Ridge), Press: narrower(r, x.Press)}
			less[i] = drift.Flow{X: narrower(r, less[i].X), Y: narrower(r, less[i].Y)}
		}
		for i, x := range []struct {
			l []drift.Flow
			c ice.Chart
		}{{flows, d}, {less, c}, {less, d}} {
			n, e := drift.Step(b, x.l, x.c)
			if e != api.OK {
				t.Fatal(e)
			}
			if is, e := ice.InsideChart(n, wide); !is || e != api.OK {
				t.Fatal(i, b, x.l, x.c, n, wide, e)
			}
		}
	}
}
