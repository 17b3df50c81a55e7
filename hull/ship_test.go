package hull_test

import (
	"slices"
	"testing"

	"polynya/api"
	"polynya/hull"
)

// P3.1: ships and curves.

// numbers are the numbers of a ship, with their limits and the error for them.
var numbers = []struct {
	name   string
	of     func(s *hull.Ship) *int
	lo, hi int
	want   api.Errno
}{
	{"Class", func(s *hull.Ship) *int { return &s.Class }, 1, 6, api.ErrClass},
	{"Power", func(s *hull.Ship) *int { return &s.Power }, 100, 100000, api.ErrHull},
	{"Draught", func(s *hull.Ship) *int { return &s.Draught }, 10, 2000, api.ErrHull},
	{"Tonnes", func(s *hull.Ship) *int { return &s.Tonnes }, 10, 500000, api.ErrHull},
	{"Slow", func(s *hull.Ship) *int { return &s.Slow }, 0, 20, api.ErrHull},
	{"Brash", func(s *hull.Ship) *int { return &s.Brash }, 0, 100, api.ErrHull},
	{"Ridge", func(s *hull.Ship) *int { return &s.Ridge }, 0, 500, api.ErrHull},
	{"Press", func(s *hull.Ship) *int { return &s.Press }, 0, 5000, api.ErrHull},
}

func TestNumbersOfAShip(t *testing.T) {
	for _, n := range numbers {
		for _, x := range append([]int{n.lo, n.hi, n.lo - 1, n.hi + 1}, wild...) {
			s := example()
			*n.of(&s) = x
			want := api.OK
			if x < n.lo || x > n.hi {
				want = n.want
			}
			if e := hull.Check(s); e != want {
				t.Error(n.name, x, e)
			}
		}
	}
	if e := hull.Check(hull.Ship{}); e != api.ErrClass {
		t.Error(e)
	}
	for _, n := range numbers[1:] {
		s := changed(func(s *hull.Ship) { s.Class, *n.of(s) = 7, -1 })
		if e := hull.Check(s); e != api.ErrClass {
			t.Error(n.name, e)
		}
	}
	for class := range 7 {
		want := api.ErrHull
		if class == 0 {
			want = api.ErrClass
		}
		if e := hull.Check(hull.Ship{Class: class}); e != want {
			t.Error(class, e)
		}
	}
}

// steps makes a curve of n points, up to an X, all of whose Y are the same.
func steps(n, last, y int) []hull.Point {
	var l []hull.Point
	for i := range n {
		l = append(l, hull.Point{X: i, Y: y})
	}
	l[n-1].X = last
	return l
}

// noCurves are lists of points that are no curves.
var noCurves = [][]hull.Point{
	nil,
	{},
	curve(0, 0),
	steps(9, 200, 0),
	steps(1000, 2000, 0),
	curve(1, 0, 200, 0),
	curve(-1, 0, 200, 0),
	curve(0, 0, 0, 0),
	curve(0, 0, 100, 0, 100, 0),
	curve(0, 0, 200, 0, 199, 0),
	curve(0, 0, 401, 0),
	curve(0, 0, 1<<63-1, 0),
	curve(0, 0, -1<<63, 0),
	curve(0, -1, 200, 0),
	curve(0, 0, 200, -1),
	curve(0, 20001, 200, 0),
	curve(0, 0, 200, 20001),
	curve(0, 0, 100, 20001, 200, 0),
	curve(0, -1<<63, 200, 1<<63-1),
}

func TestCurvesOfAShip(t *testing.T) {
	thrust := func(s *hull.Ship, l []hull.Point) { s.Thrust = l }
	water := func(s *hull.Ship, l []hull.Point) { s.Water = l }
	ice := func(s *hull.Ship, l []hull.Point) { s.Ice = l }
	for i, c := range []struct {
		set  func(s *hull.Ship, l []hull.Point)
		l    []hull.Point
		want api.Errno
	}{
		{thrust, curve(0, 20000, 250, 0), api.OK},
		{thrust, curve(0, 0, 10, 0), api.OK},
		{thrust, steps(8, 250, 9), api.OK},
		{thrust, curve(0, 0, 9, 0), api.ErrHull},
		{thrust, curve(0, 0, 251, 0), api.ErrHull},
		{thrust, curve(0, 0, 100, 1), api.ErrHull},
		{thrust, curve(0, 9, 100, 5, 150, 6, 200, 0), api.ErrHull},
		{thrust, curve(0, 5, 100, 6, 200, 0), api.ErrHull},
		{thrust, curve(0, 9, 100, 5, 200, 6), api.ErrHull},
		{water, curve(0, 0, 250, 20000), api.OK},
		{water, curve(0, 20000, 1, 20000), api.OK},
		{water, steps(8, 250, 9), api.OK},
		{water, curve(0, 0, 251, 0), api.ErrHull},
		{water, curve(0, 1, 100, 0), api.ErrHull},
		{water, curve(0, 0, 100, 6, 150, 5, 200, 9), api.ErrHull},
		{water, curve(0, 0, 100, 6, 200, 5), api.ErrHull},
		{ice, curve(0, 0, 400, 20000), api.OK},
		{ice, steps(8, 400, 0), api.OK},
		{ice, curve(0, 0, 1, 7, 400, 7), api.OK},
		{ice, curve(0, 0, 399, 0), api.ErrHull},
		{ice, curve(0, 1, 400, 1), api.ErrHull},
		{ice, curve(0, 0, 100, 6, 200, 5, 400, 9), api.ErrHull},
		{ice, curve(0, 0, 100, 6, 400, 5), api.ErrHull},
	} {
		if e := hull.Check(changed(func(s *hull.Ship) { c.set(s, c.l) })); e != c.want {
			t.Error(i, e)
		}
	}
	for i, l := range noCurves {
		// Everything else of the curve is as it must be.
		l400 := slices.Clone(l)
		for k, p := range l400 {
			if p.X == 200 {
				l400[k].X = 400
			}
		}
		for k, s := range []hull.Ship{
			changed(func(s *hull.Ship) { s.Thrust = l }),
			changed(func(s *hull.Ship) { s.Water = l }),
			changed(func(s *hull.Ship) { s.Ice = l400 }),
		} {
			if e := hull.Check(s); e != api.ErrHull {
				t.Error(i, k, e)
			}
		}
	}
}

func TestAt(t *testing.T) {
	whole := func(n int) api.Ratio { return api.Ratio{N: n, D: 1} }
	falling := curve(0, 1000, 100, 800, 200, 0)
	for i, c := range []struct {
		l    []hull.Point
		x    int
		want api.Ratio
	}{
		// At the points, between them, and behind the last one.
		{falling, 0, whole(1000)},
		{falling, 1, whole(998)},
		{falling, 50, whole(900)},
		{falling, 99, whole(802)},
		{falling, 100, whole(800)},
		{falling, 101, whole(792)},
		{falling, 150, whole(400)},
		{falling, 199, whole(8)},
		{falling, 200, whole(0)},
		{falling, 201, whole(0)},
		{falling, 250, whole(0)},
		{falling, 1000, whole(0)},
		{curve(0, 0, 3, 10), 1, api.Ratio{N: 10, D: 3}},
		{curve(0, 0, 3, 10), 2, api.Ratio{N: 20, D: 3}},
		{curve(0, 0, 3, 10), 4, whole(10)},
		{curve(0, 10, 3, 0), 1, api.Ratio{N: 20, D: 3}},
		{curve(0, 0, 6, 3), 4, whole(2)},
		{curve(0, 0, 6, 4), 1, api.Ratio{N: 2, D: 3}},
		{curve(0, 0, 400, 20000), 400, whole(20000)},
		{curve(0, 20000, 400, 19999), 1, api.Ratio{N: 7999999, D: 400}},
		{curve(0, 1, 1, 5, 2, 3, 3, 9, 4, 0, 5, 8, 6, 2, 8, 7), 7, api.Ratio{N: 9, D: 2}},
	} {
		if y, e := hull.At(c.l, c.x); y != c.want || e != api.OK {
			t.Error(i, y, e)
		}
	}
}

func TestAtErrors(t *testing.T) {
	for i, l := range noCurves {
		for _, x := range []int{0, -1, 1001} {
			if y, e := hull.At(l, x); y != (api.Ratio{}) || e != api.ErrHull {
				t.Error(i, x, y, e)
			}
		}
	}
	for _, x := range append([]int{1000, 1001}, wild...) {
		y, e := hull.At(curve(0, 7, 400, 7), x)
		want, f := api.Ratio{N: 7, D: 1}, api.OK
		if x < 0 || x > 1000 {
			want, f = api.Ratio{}, api.ErrRange
		}
		if y != want || e != f {
			t.Error(x, y, e)
		}
	}
	// A curve of At need not be one of a ship: Y may fall and rise.
	if y, e := hull.At(curve(0, 9, 5, 0, 7, 20000, 9, 3), 6); y != (api.Ratio{N: 10000, D: 1}) || e != api.OK {
		t.Error(y, e)
	}
}

func TestAnyValues(t *testing.T) {
	r := random()
	for range 3000 {
		l := anyCurve(r, 8+r.IntN(393), 20000)
		for i := range l {
			l[i].Y = r.IntN(20001)
		}
		x := r.IntN(450)
		want := valueOf(l, x)
		if y, e := hull.At(l, x); e != api.OK || y != (api.Ratio{N: int(want.Num().Int64()), D: int(want.Denom().Int64())}) {
			t.Fatal(l, x, y, e)
		}
	}
}

func TestThrust(t *testing.T) {
	s := example()
	odd := changed(func(s *hull.Ship) { s.Thrust = curve(0, 20, 30, 0) })
	last := changed(func(s *hull.Ship) { s.Thrust = curve(0, 20, 30, 7) })
	for i, c := range []struct {
		s       hull.Ship
		v, want int
	}{
		{s, 0, 1000}, {s, 50, 900}, {s, 100, 800}, {s, 133, 536}, {s, 199, 8}, {s, 200, 0}, {s, 201, 0}, {s, 250, 0},
		// 19 1/3, 18 2/3 and 2/3, rounded down.
		{odd, 1, 19}, {odd, 2, 18}, {odd, 3, 18}, {odd, 29, 0},
		{last, 29, 7}, {last, 30, 7}, {last, 31, 7}, {last, 250, 7},
	} {
		if n, e := hull.Thrust(c.s, c.v); n != c.want || e != api.OK {
			t.Error(i, n, e)
		}
	}
}
