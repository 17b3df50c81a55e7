package ice_test

import (
	"math/rand/v2"
	"slices"

	"polynya/api"
	"polynya/ice"
)

// names and most: the quantities in their order, with the limits that the document gives them.
var (
	names = [4]string{"Conc", "Thick", "Ridge", "Press"}
	most  = [4]int{100, 400, 100, 3}
)

// wild are numbers at and beyond limits.
var wild = []int{-1 << 63, -1 << 62, -1 << 32, -1, 0, 1, 2, 3, 4, 12, 100, 101, 400, 401, 1000, 10000, 1 << 32, 1 << 62, 1<<63 - 1}

func span(lo, hi int) api.Span { return api.Span{Lo: lo, Hi: hi} }

// numberAt is the place of a quantity in ice.
func numberAt(x *ice.Ice, q int) *int { return [4]*int{&x.Conc, &x.Thick, &x.Ridge, &x.Press}[q] }

// spanAt is the place of a quantity's span in a cell.
func spanAt(c *ice.Cell, q int) *api.Span {
	return [4]*api.Span{&c.Conc, &c.Thick, &c.Ridge, &c.Press}[q]
}

// iceWith is ice that has just one quantity.
func iceWith(q, n int) ice.Ice {
	var x ice.Ice
	*numberAt(&x, q) = n
	return x
}

// whole is the whole cell, as the document has it.
func whole() ice.Cell {
	return ice.Cell{Conc: span(0, 100), Thick: span(0, 400), Ridge: span(0, 100), Press: span(0, 3)}
}

// cellWith is the whole cell, but for the span of one quantity.
func cellWith(q int, s api.Span) ice.Cell {
	c := whole()
	*spanAt(&c, q) = s
	return c
}

// report makes a report of one quantity of the cell in column 2 and row 1.
func report(id, at, q int, s api.Span) ice.Report {
	r := ice.Report{Id: id, Source: ice.Buoy, At: at, X: 2, Y: 1, Has: 1 << q}
	*spanAt(&r.Cell, q) = s
	return r
}

// thick makes reports of the thickness at hour 5, numbered from 0 on.
func thick(l ...api.Span) []ice.Report {
	var out []ice.Report
	for i, s := range l {
		out = append(out, report(i, 5, 1, s))
	}
	return out
}

// roundedUp is the least whole number that is not below rate times hours by 24.
func roundedUp(rate, hours int) int {
	n := 0
	for 24*n < rate*hours {
		n++
	}
	return n
}

// random makes the same numbers in each run.
func random() *rand.Rand { return rand.New(rand.NewPCG(19, 73)) }

func anyIce(r *rand.Rand) ice.Ice {
	var x ice.Ice
	for q := range most {
		*numberAt(&x, q) = r.IntN(most[q] + 1)
	}
	return x
}

func anyCell(r *rand.Rand) ice.Cell {
	return aroundIce(r, anyIce(r), 1)
}

// aroundIce makes a cell that has some ice; the greater narrow is, the less else it has.
func aroundIce(r *rand.Rand, x ice.Ice, narrow int) ice.Cell {
	var c ice.Cell
	for q := range most {
		n := *numberAt(&x, q)
		*spanAt(&c, q) = span(n-r.IntN(n/narrow+1), n+r.IntN((most[q]-n)/narrow+1))
	}
	return c
}

func anyRates(r *rand.Rand, limit int) ice.Rates {
	var m ice.Rates
	for q := range most {
		*numberAt(&m.Up, q), *numberAt(&m.Down, q) = r.IntN(limit+1), r.IntN(limit+1)
	}
	return m
}

// anyReports makes reports of one cell, many of which are in conflict.
func anyReports(r *rand.Rand, n, now int) []ice.Report {
	var l []ice.Report
	for i := range n {
		l = append(l, ice.Report{Id: 7 * i, Source: 1 + r.IntN(3), At: r.IntN(now + 1), X: 4, Y: 6, Has: 1 + r.IntN(15), Cell: aroundIce(r, anyIce(r), 1+r.IntN(3))})
	}
	return l
}

// toldBy is what a report tells, worked out from the words of the document.
func toldBy(x ice.Report, m ice.Rates, now int) ice.Cell {
	c := whole()
	for q := range most {
		if x.Has/(1<<q)%2 == 0 {
			continue
		}
		s := *spanAt(&x.Cell, q)
		s.Lo -= roundedUp(*numberAt(&m.Down, q), now-x.At)
		s.Hi += roundedUp(*numberAt(&m.Up, q), now-x.At)
		*spanAt(&c, q) = span(max(s.Lo, 0), min(s.Hi, most[q]))
	}
	return c
}

// together is the ice that all cells have, and whether there is some.
func together(l []ice.Cell) (ice.Cell, bool) {
	c := whole()
	for _, x := range l {
		for q := range most {
			s, t := spanAt(&c, q), *spanAt(&x, q)
			*s = span(max(s.Lo, t.Lo), min(s.Hi, t.Hi))
			if s.Lo > s.Hi {
				return ice.Cell{}, false
			}
		}
	}
	return c, true
}

// contradictions works out the trusted reports, what they tell, and the blamed sets, from all sets one by one.
func contradictions(l []ice.Report, m ice.Rates, now int) ([]bool, ice.Cell, [][]int) {
	var trusted []bool
	var cell ice.Cell
	var blamed [][]int
	size := -1
	for mask := range 1 << len(l) {
		in, out, cells := make([]bool, len(l)), []int{}, []ice.Cell{}
		for i, r := range l {
			if in[i] = mask>>i&1 == 1; in[i] {
				cells = append(cells, toldBy(r, m, now))
			} else {
				out = append(out, i)
			}
		}
		c, agree := together(cells)
		switch {
		case !agree || len(cells) < size:
			continue
		case len(cells) > size:
			size, trusted, cell, blamed = len(cells), in, c, nil
		case trueFirst(in, trusted):
			trusted, cell = in, c
		}
		blamed = append(blamed, out)
	}
	slices.SortFunc(blamed, slices.Compare)
	return trusted, cell, blamed
}

// trueFirst reports whether truths come before others, true before false.
func trueFirst(a, b []bool) bool {
	for i, is := range a {
		if is != b[i] {
			return is
		}
	}
	return false
}

// sameSets reports whether sets are the same in the same order; empty ones are the same.
func sameSets(a, b [][]int) bool {
	return slices.EqualFunc(a, b, func(x, y []int) bool { return slices.Equal(x, y) })
}

// sameChart reports whether charts are the same.
func sameChart(a, b ice.Chart) bool {
	return a.W == b.W && a.H == b.H && a.Hour == b.Hour && slices.Equal(a.Cells, b.Cells)
}

// noChart reports whether a chart is the zero value.
func noChart(c ice.Chart) bool { return sameChart(c, ice.Chart{}) }
