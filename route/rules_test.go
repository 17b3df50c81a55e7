package route_test

import (
	"reflect"
	"slices"
	"testing"

	"polynya/api"
	"polynya/drift"
	"polynya/hull"
	"polynya/ice"
	"polynya/route"
)

// nothing reports whether results are zero values.
func nothing(l []any) bool {
	return !slices.ContainsFunc(l, func(x any) bool { return !reflect.ValueOf(x).IsZero() })
}

// given are arguments of functions.
type given struct {
	P                route.Plan
	L                []route.Leg
	Table            [][]int
	Cell, Hour, Tick int
}

// callAll calls all functions, and returns their results, a nil list as an empty one.
func callAll(g given) []any {
	check := route.Check(g.P)
	safe, e1 := route.Safe(g.P, g.Cell, g.Hour)
	options, e2 := route.Options(g.P, g.Cell, g.Tick)
	accept, e3 := route.Accept(g.P, g.L)
	margin, e4 := route.Margin(g.P, g.L)
	best, arrival, e5 := route.Best(g.P)
	table, e6 := route.Table(g.P)
	proves, e7 := route.Proves(g.P, g.Table)
	wall, e8 := route.Wall(g.P)
	hope, e9 := route.Hope(g.P)
	return []any{check, safe, options, accept, margin, best, arrival, table, proves, wall, hope, e1, e2, e3, e4, e5, e6, e7, e8, e9}
}

// some makes arguments that are right; To is cut off if it is to be so.
func some(cut bool) given {
	p := plan(3, "<...", ".#..", "...>")
	put(p, level(30, 50), 1)
	put(p, heavy(), 4, 1)
	p.Channel[2] = true
	if cut {
		put(p, closed(), 11)
	}
	table, _ := route.Table(p)
	return given{P: p, L: []route.Leg{{1, 0, 130, 4}, {2, 5, 140, 9}, {3, 9, 150, 13}, {7, 14, 160, 17}}, Table: table, Hour: 1, Tick: 3}
}

// R4: no argument is changed.
func TestArgumentsStay(t *testing.T) {
	for _, cut := range []bool{false, true} {
		g := some(cut)
		g.P.To = 7 // so that the route is accepted, if it is not cut off
		l := callAll(g)
		want := some(cut)
		want.P.To = 7
		if !reflect.DeepEqual(g, want) {
			t.Error("an argument has changed")
		}
		if !reflect.DeepEqual(callAll(g), l) {
			t.Error("another result")
		}
		if !cut && (l[3] != 17 || l[4] != 0 || l[8] != false) {
			t.Error(l)
		}
	}
}

// spoil changes all that is in the memory of results.
func spoil(l []any) {
	for _, x := range l {
		switch y := x.(type) {
		case []int:
			clear(y[:cap(y)])
		case [][]int:
			for i := range y {
				spoil([]any{y[i]})
			}
			clear(y[:cap(y)])
		case []route.Leg:
			clear(y[:cap(y)])
		}
	}
}

// R4: results are new memory, and the lists of a table share none with each other.
func TestResultsAreNewMemory(t *testing.T) {
	for _, cut := range []bool{false, true} {
		g := some(cut)
		before := callAll(g)
		spoil(callAll(g))
		if !reflect.DeepEqual(g, some(cut)) || !reflect.DeepEqual(callAll(g), before) {
			t.Error("a result shares memory")
		}
		table, _ := route.Table(g.P)
		want, _ := route.Table(g.P)
		for i := range table {
			clear(table[i])
			_ = append(table[i], 77)
			for k := i + 1; k < len(table); k++ {
				if !slices.Equal(table[k], want[k]) {
					t.Fatal("lists share memory", i, k)
				}
			}
		}
	}
}

// R3: a nil list and an empty list are the same value.
func TestNilAndEmpty(t *testing.T) {
	g := some(true)
	g.L, g.Table = nil, make([][]int, 19)
	l := callAll(g)
	g.L = []route.Leg{}
	for i := range g.Table {
		g.Table[i] = []int{}
	}
	if !reflect.DeepEqual(l, callAll(g)) {
		t.Error("nil and empty differ")
	}
	for i, c := range []struct {
		nothing, empty func(p *route.Plan)
		want           api.Errno
	}{
		{func(p *route.Plan) { p.Charts = nil }, func(p *route.Plan) { p.Charts = []ice.Chart{} }, api.ErrMany},
		{func(p *route.Plan) { p.Channel = nil }, func(p *route.Plan) { p.Channel = []bool{} }, api.ErrArg},
		{func(p *route.Plan) { p.Basin.Land = nil }, func(p *route.Plan) { p.Basin.Land = []bool{} }, api.ErrArg},
		{func(p *route.Plan) { p.Ship.Ice = nil }, func(p *route.Plan) { p.Ship.Ice = []hull.Point{} }, api.ErrHull},
	} {
		if e := route.Check(changed(c.nothing)); e != c.want {
			t.Error(i, e)
		}
		if e := route.Check(changed(c.empty)); e != c.want {
			t.Error(i, e)
		}
	}
	for i, table := range [][][]int{nil, {}} {
		if is, e := route.Proves(plan(1, ".."), table); is || e != api.ErrArg {
			t.Error(i, is, e)
		}
	}
}

// R2: with an error there is no other result; and the same arguments have the same results, whatever was called before.
func TestNoResultWithAnError(t *testing.T) {
	p := plan(2, "...")
	put(p, closed(), 1)
	for i, c := range []struct {
		want api.Errno
		call func() ([]any, api.Errno)
	}{
		{api.ErrNone, func() ([]any, api.Errno) { n, e := route.Safe(p, 1, 0); return []any{n}, e }},
		{api.ErrRange, func() ([]any, api.Errno) { l, e := route.Options(p, 0, 13); return []any{l}, e }},
		{api.ErrBlocked, func() ([]any, api.Errno) { n, e := route.Accept(p, twoLegs()); return []any{n}, e }},
		{api.ErrBlocked, func() ([]any, api.Errno) { n, e := route.Margin(p, twoLegs()); return []any{n}, e }},
		{api.ErrBlocked, func() ([]any, api.Errno) { l, n, e := route.Best(p); return []any{l, n}, e }},
		{api.ErrArg, func() ([]any, api.Errno) { is, e := route.Proves(p, nil); return []any{is}, e }},
		{api.ErrState, func() ([]any, api.Errno) { l, e := route.Wall(plan(2, "...")); return []any{l}, e }},
		{api.ErrBlocked, func() ([]any, api.Errno) { n, e := route.Hope(p); return []any{n}, e }},
	} {
		if l, e := c.call(); !nothing(l) || e != c.want {
			t.Error(i, l, e)
		}
	}
}

// P9: every function terminates and does not panic, whatever it gets.
func TestTermination(t *testing.T) {
	r := random()
	n := func(most int) int {
		if r.IntN(8) > 0 {
			return r.IntN(most)
		}
		return wild[r.IntN(len(wild))]
	}
	for range 4000 {
		g := given{P: anyPlan(r, 3, 3, 2), Cell: n(9), Hour: n(3), Tick: n(13)}
		for range r.IntN(3) {
			cell := n(9)
			c := &g.P.Charts[r.IntN(len(g.P.Charts))]
			switch r.IntN(12) {
			case 0:
				g.P.Size = n(500)
			case 1:
				g.P.From = cell
			case 2:
				g.P.To = cell
			case 3:
				g.P.Basin = drift.Basin{W: n(4), H: n(4), Land: g.P.Basin.Land}
			case 4:
				g.P.Basin.Land = make([]bool, r.IntN(10))
			case 5:
				g.P.Channel = make([]bool, r.IntN(10))
			case 6:
				c.W, c.H = n(4), n(4)
			case 7:
				c.Hour = n(10)
			case 8:
				c.Cells = make([]ice.Cell, r.IntN(10))
			case 9:
				g.P.Ship.Thrust = curve(n(2), n(100), n(200), n(3))
			case 10:
				g.P.Ship.Class = n(7)
			case 11:
				c.Cells = slices.Repeat([]ice.Cell{{Conc: span(n(9), n(9)), Press: sure(n(4))}}, len(c.Cells))
			}
		}
		for range r.IntN(4) {
			g.L = append(g.L, route.Leg{To: n(9), Depart: n(9), Speed: n(200), Arrive: n(13)})
		}
		for range []int{7, 13, r.IntN(15)}[r.IntN(3)] {
			var l []int
			for range r.IntN(3) {
				l = append(l, n(9))
			}
			slices.Sort(l)
			g.Table = append(g.Table, slices.Compact(l))
		}
		callAll(g)
	}
}
