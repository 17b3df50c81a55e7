package drift_test

import (
	"math/rand/v2"
	"slices"
	"strings"

	"polynya/api"
	"polynya/drift"
	"polynya/ice"
)

// wild are numbers at and beyond limits.
var wild = []int{-1 << 63, -1 << 62, -1 << 32, -2001, -2000, -1, 0, 1, 2, 3, 64, 65, 1000, 2000, 2001, 10000, 1 << 32, 1 << 62, 1<<63 - 1}

// frames are the sides of a basin, and the error of them.
var frames = []struct {
	w, h int
	want api.Errno
}{
	{1, 1, api.OK},
	{64, 16, api.OK},
	{16, 64, api.OK},
	{32, 32, api.OK},
	{0, 1, api.ErrRange},
	{1, 0, api.ErrRange},
	{-1, -1, api.ErrRange},
	{65, 1, api.ErrRange},
	{1, 65, api.ErrRange},
	{64, 17, api.ErrRange},
	{25, 41, api.ErrRange},
	{1 << 32, 1 << 32, api.ErrRange},
	{-1 << 63, -1 << 63, api.ErrRange},
}

func span(lo, hi int) api.Span { return api.Span{Lo: lo, Hi: hi} }

// sure is the span of one number.
func sure(n int) api.Span { return span(n, n) }

// basin makes a basin from its rows, in which # is land.
func basin(rows ...string) drift.Basin {
	b := drift.Basin{W: len(rows[0]), H: len(rows)}
	for _, c := range strings.Join(rows, "") {
		b.Land = append(b.Land, c == '#')
	}
	return b
}

// to makes the flow that moves ice by so many thousandths for sure.
func to(x, y int) drift.Flow { return drift.Flow{X: sure(x), Y: sure(y)} }

// all makes the same flow for each cell of a basin.
func all(b drift.Basin, f drift.Flow) []drift.Flow {
	return slices.Repeat([]drift.Flow{f}, len(b.Land))
}

// only makes the cell of just one ice.
func only(x ice.Ice) ice.Cell {
	return ice.Cell{Conc: sure(x.Conc), Thick: sure(x.Thick), Ridge: sure(x.Ridge), Press: sure(x.Press)}
}

// conc makes a cell whose Conc alone is above 0.
func conc(lo, hi int) ice.Cell { return ice.Cell{Conc: span(lo, hi)} }

// chart makes the chart of a basin at hour 5.
func chart(b drift.Basin, cells ...ice.Cell) ice.Chart {
	return ice.Chart{W: b.W, H: b.H, Hour: 5, Cells: cells}
}

// calm makes the chart of a basin at hour 5 that has no ice.
func calm(b drift.Basin) ice.Chart { return chart(b, make([]ice.Cell, len(b.Land))...) }

// later is a chart at another hour.
func later(c ice.Chart, hour int) ice.Chart {
	c.Hour = hour
	return c
}

// with is a list in which one element is another one.
func with[T any](l []T, i int, x T) []T {
	l = slices.Clone(l)
	l[i] = x
	return l
}

func sameChart(a, b ice.Chart) bool {
	return a.W == b.W && a.H == b.H && a.Hour == b.Hour && slices.Equal(a.Cells, b.Cells)
}

func sameLists[T comparable](a, b [][]T) bool {
	return slices.EqualFunc(a, b, func(x, y []T) bool { return slices.Equal(x, y) })
}

// random makes the same numbers in each run.
func random() *rand.Rand { return rand.New(rand.NewPCG(29, 51)) }

// anyIce is ice that is often none, or thick.
func anyIce(r *rand.Rand) ice.Ice {
	return ice.Ice{Conc: r.IntN(3) * r.IntN(51), Thick: r.IntN(401), Ridge: r.IntN(101), Press: r.IntN(4)}
}

// cellAround makes a cell that has some ice; the greater narrow is, the less else it has.
func cellAround(r *rand.Rand, x ice.Ice, narrow int) ice.Cell {
	around := func(n, most int) api.Span {
		return span(n-r.IntN(n/narrow+1), n+r.IntN((most-n)/narrow+1))
	}
	return ice.Cell{Conc: around(x.Conc, 100), Thick: around(x.Thick, 400), Ridge: around(x.Ridge, 100), Press: around(x.Press, 3)}
}

// anyBasin makes a basin of at most so many columns and rows, a quarter of it land.
func anyBasin(r *rand.Rand, w, h int) drift.Basin {
	b := drift.Basin{W: 1 + r.IntN(w), H: 1 + r.IntN(h)}
	for range b.W * b.H {
		b.Land = append(b.Land, r.IntN(4) == 0)
	}
	return b
}

// anySpan makes a span of a flow that is at most so wide.
func anySpan(r *rand.Rand, wide int) api.Span {
	lo := max(r.IntN(4200)-2100, -2000)
	if r.IntN(2) == 0 {
		lo = lo / 1000 * 1000
	}
	lo = min(lo, 2000)
	return span(lo, min(lo+r.IntN(wide+1), 2000))
}

// anyFlows makes flows for a basin.
func anyFlows(r *rand.Rand, b drift.Basin, wide int) []drift.Flow {
	var l []drift.Flow
	for range b.Land {
		l = append(l, drift.Flow{X: anySpan(r, wide), Y: anySpan(r, wide)})
	}
	return l
}

// anyField makes the field of a basin, and a chart that holds it.
func anyField(r *rand.Rand, b drift.Basin, narrow int) ([]ice.Ice, ice.Chart) {
	field, c := make([]ice.Ice, len(b.Land)), calm(b)
	for i, land := range b.Land {
		if !land {
			field[i] = anyIce(r)
			c.Cells[i] = cellAround(r, field[i], narrow)
		}
	}
	return field, c
}

// whole counts how many times by goes into a number, rounded down.
func whole(n, by int) int {
	k := 0
	for k*by > n {
		k--
	}
	for (k+1)*by <= n {
		k++
	}
	return k
}

// movesOf are the moves of a flow, worked out from the words of the document.
func movesOf(f drift.Flow) []drift.Move {
	var l []drift.Move
	for dy := whole(f.Y.Lo, 1000); dy <= whole(f.Y.Hi+999, 1000); dy++ {
		for dx := whole(f.X.Lo, 1000); dx <= whole(f.X.Hi+999, 1000); dx++ {
			l = append(l, drift.Move{DX: dx, DY: dy})
		}
	}
	return l
}

// anyMoves makes moves that flows have; those of land may be any.
func anyMoves(r *rand.Rand, b drift.Basin, l []drift.Flow) []drift.Move {
	var moves []drift.Move
	for i, f := range l {
		can := movesOf(f)
		m := can[r.IntN(len(can))]
		if b.Land[i] {
			m = drift.Move{DX: wild[r.IntN(len(wild))], DY: wild[r.IntN(len(wild))]}
		}
		moves = append(moves, m)
	}
	return moves
}

// targetOf is the target of a move of a cell, worked out from the words of the document.
func targetOf(b drift.Basin, cell int, m drift.Move) int {
	for i, land := range b.Land {
		if i%b.W == cell%b.W+m.DX && i/b.W == cell/b.W+m.DY && !land {
			return i
		}
	}
	return cell
}

// targetsOf are all targets of a cell, in increasing order, each once.
func targetsOf(b drift.Basin, f drift.Flow, cell int) []int {
	var l []int
	for i := range b.Land {
		if slices.ContainsFunc(movesOf(f), func(m drift.Move) bool { return targetOf(b, cell, m) == i }) {
			l = append(l, i)
		}
	}
	return l
}

// heap is what a cell has if all of this comes to it, and the excess, worked out from the words of the document.
func heap(come ...ice.Ice) (ice.Ice, int) {
	var x ice.Ice
	for _, c := range come {
		if c.Conc > 0 {
			x.Conc, x.Thick, x.Ridge = x.Conc+c.Conc, max(x.Thick, c.Thick), max(x.Ridge, c.Ridge)
		}
	}
	over := max(x.Conc, 100) - 100
	for ; x.Press < 3 && 25*x.Press < over; x.Press++ {
	}
	x.Conc, x.Thick, x.Ridge = min(x.Conc, 100), min(x.Thick+whole(over, 10), 400), min(x.Ridge+whole(over, 5), 100)
	return x, over
}

// drifted is what becomes of a field, worked out from the words of the document.
func drifted(b drift.Basin, field []ice.Ice, moves []drift.Move) ([]ice.Ice, []int) {
	come := make([][]ice.Ice, len(field))
	for i, x := range field {
		if !b.Land[i] {
			t := targetOf(b, i, moves[i])
			come[t] = append(come[t], x)
		}
	}
	after, over := make([]ice.Ice, len(field)), make([]int, len(field))
	for i, l := range come {
		after[i], over[i] = heap(l...)
	}
	return after, over
}
