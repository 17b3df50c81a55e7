package drift_test

import (
	"reflect"
	"slices"
	"testing"

	"polynya/api"
	"polynya/drift"
	"polynya/ice"
)

// given are arguments of functions.
type given struct {
	B     drift.Basin
	L     [][]drift.Flow
	C, D  ice.Chart
	Field []ice.Ice
	Moves []drift.Move
	M     ice.Rates
	Cell  int
}

// callAll calls all functions that take lists, and returns their results.
func callAll(g given) []any {
	var flows []drift.Flow
	if len(g.L) > 0 {
		flows = g.L[0]
	}
	targets, e1 := drift.Targets(g.B, flows, g.Cell)
	shore, e2 := drift.Shore(g.B, g.C)
	field, over, e3 := drift.Drift(g.B, flows, g.Field, g.Moves)
	step, e4 := drift.Step(g.B, flows, g.C)
	run, e5 := drift.Run(g.B, g.L, g.C, g.M)
	kinds, e6 := drift.Kinds(g.B, g.C)
	turns, e7 := drift.Turns(g.B, g.C, g.D)
	joined, e8 := drift.Joined(g.B, g.C, g.Cell, 0)
	reach, e9 := drift.Reach(g.B, g.L, g.Cell)
	origin, e10 := drift.Origin(g.B, g.L, g.Cell)
	return []any{drift.CheckBasin(g.B), drift.CheckFlows(g.B, flows), targets, shore, field, over, step, run, kinds, turns, joined, reach, origin, e1, e2, e3, e4, e5, e6, e7, e8, e9, e10}
}

// some makes arguments that are right.
func some() given {
	r := random()
	b := basin("...", ".#.", "...")
	g := given{B: b, M: ice.Rates{Up: ice.Ice{Conc: 24, Thick: 24}}, Cell: 8}
	g.Field, g.C = anyField(r, b, 2)
	_, g.D = anyField(r, b, 2)
	g.L = [][]drift.Flow{anyFlows(r, b, 900), anyFlows(r, b, 900)}
	g.Moves = anyMoves(r, b, g.L[0])
	return g
}

// R2: with an error there is no other result. R4: no argument is changed, and results are new memory.

func TestArgumentsStay(t *testing.T) {
	g := some()
	l := callAll(g)
	if i := slices.IndexFunc(l, func(x any) bool { e, is := x.(api.Errno); return is && e != api.OK }); i >= 0 {
		t.Error(i, l[i])
	}
	if !reflect.DeepEqual(g, some()) {
		t.Error("an argument has changed")
	}
	if !reflect.DeepEqual(callAll(g), l) {
		t.Error("another result")
	}
}

// spoil changes all that is in the memory of results.
func spoil(l []any) {
	for _, x := range l {
		switch y := x.(type) {
		case []int:
			clear(y[:cap(y)])
		case [][]int:
			for i := range y {
				spoil([]any{y[i]})
			}
		case []ice.Ice:
			clear(y[:cap(y)])
		case ice.Chart:
			clear(y.Cells[:cap(y.Cells)])
		case []ice.Chart:
			for i := range y {
				spoil([]any{y[i]})
			}
		}
	}
}

func TestResultsAreNewMemory(t *testing.T) {
	g := some()
	before := callAll(g)
	spoil(callAll(g))
	if !reflect.DeepEqual(g, some()) || !reflect.DeepEqual(callAll(g), before) {
		t.Error("a result shares memory")
	}
	// The charts of a run, and the lists of a floe, share none with each other.
	still := make([][]drift.Flow, 3)
	for i := range still {
		still[i] = all(g.B, to(0, 0))
	}
	run, _ := drift.Run(g.B, still, calm(g.B), ice.Rates{})
	for i := range run {
		run[i].Cells[0] = conc(i, i)
	}
	reach, _ := drift.Reach(g.B, still, 2)
	origin, _ := drift.Origin(g.B, still, 2)
	for i := range reach {
		reach[i][0], origin[i][0] = 10+i, 20+i
		_, _ = append(reach[i], 98), append(origin[i], 99)
	}
	for i := range run {
		if run[i].Cells[0] != conc(i, i) || reach[i][0] != 10+i || origin[i][0] != 20+i {
			t.Error(i, run[i], reach[i], origin[i])
		}
	}
}

// R3: a nil list and an empty list are the same value.
func TestNilAndEmpty(t *testing.T) {
	g := some()
	g.L = nil
	l := callAll(g)
	g.L = [][]drift.Flow{}
	if !reflect.DeepEqual(l, callAll(g)) {
		t.Error("nil and empty differ")
	}
	for i, b := range []drift.Basin{{W: 1, H: 1}, {W: 1, H: 1, Land: []bool{}}} {
		if e := drift.CheckBasin(b); e != api.ErrArg {
			t.Error(i, e)
		}
	}
	b := basin(".")
	for i, flows := range [][]drift.Flow{nil, {}} {
		if e := drift.CheckFlows(b, flows); e != api.ErrArg {
			t.Error(i, e)
		}
	}
	for i, steps := range [][][]drift.Flow{nil, {}} {
		run, e := drift.Run(b, steps, calm(b), ice.Rates{})
		if len(run) != 1 || e != api.OK {
			t.Error(i, run, e)
		}
	}
}

// Limits: basins of 1024 cells, 48 steps, moves of two cells.
func TestLargest(t *testing.T) {
	b := drift.Basin{W: 64, H: 16, Land: make([]bool, 1024)}
	flows := all(b, drift.Flow{X: span(-2000, 2000), Y: span(-2000, 2000)})
	l := slices.Repeat([][]drift.Flow{flows}, 48)
	c := calm(b)
	for i := range c.Cells {
		c.Cells[i] = only(ice.Ice{Conc: 100, Thick: 400, Ridge: 100, Press: 3})
	}
	run, e := drift.Run(b, l, c, ice.Rates{})
	if e != api.OK || len(run) != 49 || slices.ContainsFunc(run[48].Cells, func(x ice.Cell) bool { return x != ice.Whole() }) {
		t.Error(len(run), e)
	}
	reach, e := drift.Reach(b, l, 0)
	if e != api.OK || len(reach[31]) != 63*16 || len(reach[32]) != 1024 || len(reach[48]) != 1024 {
		t.Error(len(reach), e)
	}
	origin, e := drift.Origin(b, l, 1023)
	if e != api.OK || len(origin[31]) != 63*16 || len(origin[32]) != 1024 || len(origin[48]) != 1024 {
		t.Error(len(origin), e)
	}
	open := calm(b)
	if n, e := drift.Joined(b, open, 0, 1023); n != 2 || e != api.OK {
		t.Error(n, e)
	}
}

// P9: every function terminates and does not panic, whatever it gets.
func TestTermination(t *testing.T) {
	r := random()
	n := func() int {
		if r.IntN(6) > 0 {
			return r.IntN(3)
		}
		return wild[r.IntN(len(wild))]
	}
	s := func() api.Span { return span(n(), n()) }
	f := func() drift.Flow { return drift.Flow{X: s(), Y: s()} }
	x := func() ice.Ice { return ice.Ice{Conc: n(), Thick: n()} }
	// often makes a list that is often as long as it is to be.
	often := func(k int) int {
		if 0 <= k && k < 9 && r.IntN(8) > 0 {
			return k
		}
		return r.IntN(5)
	}
	for range 20000 {
		g := given{B: drift.Basin{W: n(), H: n()}, Cell: n(), M: ice.Rates{Up: x()}}
		k := often(g.B.W * g.B.H)
		for range k {
			g.B.Land = append(g.B.Land, r.IntN(3) == 0)
			g.Field, g.Moves = append(g.Field, x()), append(g.Moves, drift.Move{DX: n(), DY: n()})
		}
		for range r.IntN(3) {
			var flows []drift.Flow
			for range often(k) {
				flows = append(flows, f())
			}
			g.L = append(g.L, flows)
		}
		g.C, g.D = ice.Chart{W: g.B.W, H: g.B.H, Hour: n()}, ice.Chart{W: n(), H: n(), Hour: n()}
		for range often(k) {
			cell := ice.Cell{}
			if r.IntN(3) == 0 {
				cell.Conc = s()
			}
			g.C.Cells, g.D.Cells = append(g.C.Cells, cell), append(g.D.Cells, cell)
		}
		callAll(g)
		drift.Weather(f(), f(), n())
		drift.Moves(f())
		drift.Joined(g.B, g.C, n(), n())
	}
}
