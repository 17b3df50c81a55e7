package hull_test

import (
	"reflect"
	"slices"
	"testing"

	"polynya/api"
	"polynya/hull"
	"polynya/ice"
)

// nothing reports whether results are zero values.
func nothing(l []any) bool {
	return !slices.ContainsFunc(l, func(x any) bool { return !reflect.ValueOf(x).IsZero() })
}

// R1: of several errors the one that is named first. R2: with an error, there is no other result.
func TestOrderOfErrors(t *testing.T) {
	noClass, noHull := hull.Ship{Class: 7}, changed(func(s *hull.Ship) { s.Ice = nil })
	noIce, noCell := ice.Ice{Conc: 101}, ice.Cell{Thick: span(2, 1)}
	for _, f := range faces() {
		for _, c := range []struct {
			does bool
			s    hull.Ship
			i    ice.Ice
			c    ice.Cell
			v    int
			e    api.Errno
		}{
			{f.ship, noClass, noIce, noCell, -1, api.ErrClass},
			{f.ship, noHull, noIce, noCell, 251, api.ErrHull},
			{f.ice, example(), noIce, noCell, 251, api.ErrIce},
			{f.cell, example(), noIce, noCell, -1, api.ErrIce},
			{f.atSpeed, example(), ice.Ice{}, ice.Cell{}, -1, api.ErrRange},
			{f.atSpeed, example(), ice.Ice{}, ice.Cell{}, 251, api.ErrRange},
			// What follows from the ice comes last.
			{f.atSpeed, example(), ice.Ice{Conc: 100, Thick: 400}, level(400, 400), 251, api.ErrRange},
		} {
			for _, channel := range []bool{false, true} {
				if l, e := f.call(c.s, c.i, c.c, c.v, channel); c.does && (!nothing(l) || e != c.e) {
					t.Error(f.name, c.e, l, e)
				}
			}
		}
	}
	if n, e := hull.Slower(noHull, noClass); n != 0 || e != api.ErrHull {
		t.Error(n, e)
	}
	if n, e := hull.Slower(noClass, noHull); n != 0 || e != api.ErrClass {
		t.Error(n, e)
	}
}

// limits are the numbers of an ice, and the spans of a cell, with their limits.
var limits = []struct {
	name string
	of   func(i *ice.Ice) *int
	in   func(c *ice.Cell) *api.Span
	most int
}{
	{"Conc", func(i *ice.Ice) *int { return &i.Conc }, func(c *ice.Cell) *api.Span { return &c.Conc }, 100},
	{"Thick", func(i *ice.Ice) *int { return &i.Thick }, func(c *ice.Cell) *api.Span { return &c.Thick }, 400},
	{"Ridge", func(i *ice.Ice) *int { return &i.Ridge }, func(c *ice.Cell) *api.Span { return &c.Ridge }, 100},
	{"Press", func(i *ice.Ice) *int { return &i.Press }, func(c *ice.Cell) *api.Span { return &c.Press }, 3},
}

func TestLimitsOfIce(t *testing.T) {
	s := even(20000)
	s.Class = 6
	for _, f := range faces() {
		for _, q := range limits {
			for _, n := range append([]int{q.most, q.most + 1}, wild...) {
				var i ice.Ice
				*q.of(&i) = n
				want := api.OK
				if n < 0 || n > q.most {
					want = api.ErrIce
				}
				if _, e := f.call(s, i, ice.Cell{}, 10, false); f.ice && e != want {
					t.Error(f.name, q.name, n, e)
				}
				for _, x := range []api.Span{span(0, n), sure(n)} {
					var c ice.Cell
					*q.in(&c) = x
					if _, e := f.call(s, ice.Ice{}, c, 10, false); f.cell && e != want {
						t.Error(f.name, q.name, x, e)
					}
				}
			}
			var c ice.Cell
			*q.in(&c) = span(1, 0)
			if _, e := f.call(s, ice.Ice{}, c, 10, false); f.cell && e != api.ErrIce {
				t.Error(f.name, q.name, e)
			}
		}
	}
}

func TestLimitsOfSpeeds(t *testing.T) {
	s := even(20000)
	for _, f := range faces() {
		for _, v := range append([]int{249, 250, 251}, wild...) {
			want := api.OK
			if v < 0 || v > 250 {
				want = api.ErrRange
			}
			if _, e := f.call(s, ice.Ice{}, ice.Cell{}, v, false); f.atSpeed && e != want {
				t.Error(f.name, v, e)
			}
		}
	}
}

// Every function that takes a ship examines all of her.
func TestNumbersOfAShipEverywhere(t *testing.T) {
	for _, f := range faces() {
		for _, n := range numbers {
			for _, x := range []int{n.lo - 1, n.hi + 1} {
				s := changed(func(s *hull.Ship) { *n.of(s) = x })
				if l, e := f.call(s, ice.Ice{}, ice.Cell{}, 10, true); f.ship && (!nothing(l) || e != n.want) {
					t.Error(f.name, n.name, x, l, e)
				}
			}
		}
	}
}

// R3: a nil list and an empty list are the same value.
func TestNilAndEmpty(t *testing.T) {
	s := example()
	for i, l := range [][]hull.Point{nil, {}} {
		if _, e := hull.At(l, 0); e != api.ErrHull {
			t.Error(i, e)
		}
		for k, set := range []func(s *hull.Ship){func(s *hull.Ship) { s.Thrust = l }, func(s *hull.Ship) { s.Water = l }, func(s *hull.Ship) { s.Ice = l }} {
			if e := hull.Check(changed(set)); e != api.ErrHull {
				t.Error(i, k, e)
			}
		}
	}
	for i, l := range [][]hull.Part{nil, {}} {
		if _, _, e := hull.Leg(s, l); e != api.ErrMany {
			t.Error(i, e)
		}
	}
	for i, l := range [][]api.Span{nil, {}} {
		if _, e := hull.Free(s, ice.Cell{}, l); e != api.ErrNone {
			t.Error(i, e)
		}
	}
}

// given are arguments of functions.
type given struct {
	S     hull.Ship
	Parts []hull.Part
	Press []api.Span
	Cell  ice.Cell
	Ice   ice.Ice
	V     int
}

// some makes arguments that are right.
func some() given {
	return given{
		S:     example(),
		Parts: []hull.Part{part(level(40, 60), 100), {Cell: level(50, 50), Channel: true, Length: 31}, part(ice.Cell{}, 9)},
		Press: []api.Span{sure(3), span(2, 3), span(0, 1)},
		Cell:  level(40, 60), Ice: ice.Ice{Conc: 100, Thick: 50}, V: 100,
	}
}

// callAll calls all functions, and returns their results.
func callAll(g given, channel bool) []any {
	var all []any
	for _, f := range faces() {
		l, e := f.call(g.S, g.Ice, g.Cell, g.V, channel)
		all = append(append(all, l...), e)
	}
	y, e := hull.At(g.S.Ice, g.V)
	speeds, time, f := hull.Leg(g.S, g.Parts)
	wait, h := hull.Free(g.S, g.Cell, g.Press)
	return append(all, y, e, speeds, time, f, wait, h)
}

// R4: no argument is changed, and results are new memory.
func TestArgumentsStay(t *testing.T) {
	g := some()
	before := callAll(g, false)
	if !reflect.DeepEqual(g, some()) {
		t.Error("an argument has changed")
	}
	speeds, _, _ := hull.Leg(g.S, g.Parts)
	more, _, _ := hull.Leg(g.S, g.Parts)
	clear(speeds[:cap(speeds)])
	if !reflect.DeepEqual(g, some()) || !reflect.DeepEqual(callAll(g, false), before) || !slices.Equal(more, []int{130, 155, 160}) {
		t.Error("a result shares memory")
	}
}

// P9: every function terminates and does not panic, whatever it gets.
func TestTermination(t *testing.T) {
	r := random()
	n := func() int {
		if r.IntN(6) > 0 {
			return r.IntN(4)
		}
		return wild[r.IntN(len(wild))]
	}
	s := func() api.Span { return span(n(), n()) }
	for range 6000 {
		g := given{S: anyShip(r), V: n(), Ice: ice.Ice{Conc: n(), Thick: n(), Ridge: n(), Press: n()}}
		if r.IntN(3) > 0 {
			g.S = changed(func(s *hull.Ship) { *numbers[r.IntN(len(numbers))].of(s) = n() })
		}
		var l []hull.Point
		for range r.IntN(10) {
			l = append(l, hull.Point{X: n(), Y: n()})
		}
		switch r.IntN(6) {
		case 0:
			g.S.Thrust = l
		case 1:
			g.S.Water = l
		case 2:
			g.S.Ice = l
		}
		if r.IntN(3) == 0 {
			g.Cell = ice.Cell{Conc: s(), Thick: s(), Ridge: s(), Press: s()}
		}
		for range r.IntN(4) {
			g.Parts = append(g.Parts, hull.Part{Cell: g.Cell, Channel: r.IntN(2) == 0, Length: n()})
			g.Press = append(g.Press, s())
		}
		callAll(g, r.IntN(2) == 0)
		hull.At(l, n())
	}
}

// Limits: 8 points of a curve, 100 parts of a leg, 240 hours; the largest numbers that a ship may have.
func TestLargest(t *testing.T) {
	s := hull.Ship{
		Class: 6, Power: 100000, Draught: 2000, Tonnes: 500000,
		Thrust: steps(8, 250, 20000), Water: steps(8, 250, 20000), Ice: curve(0, 0, 394, 13333, 395, 14000, 396, 15000, 397, 16000, 398, 17000, 399, 19999, 400, 20000),
		Slow: 20, Brash: 100, Ridge: 500, Press: 5000,
	}
	if v, e := hull.Speeds(s, ice.Whole(), false); v != span(0, 250) || e != api.OK {
		t.Error(v, e)
	}
	if n, e := hull.Burn(s, ice.Ice{}, 250, false); n != 10000+100000 || e != api.OK {
		t.Error(n, e)
	}
	speeds, time, e := hull.Leg(s, slices.Repeat([]hull.Part{part(ice.Cell{Thick: span(0, 400)}, 10000)}, 100))
	if !slices.Equal(speeds, slices.Repeat([]int{250}, 100)) || time != sure(100*2400) || e != api.OK {
		t.Error(speeds, time, e)
	}
	if m, e := hull.Free(s, ice.Cell{}, append(slices.Repeat([]api.Span{span(0, 3)}, 239), sure(0))); m != span(0, 239) || e != api.OK {
		t.Error(m, e)
	}
}
