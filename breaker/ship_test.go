package breaker_test

import (
	"reflect"
	"slices"
	"testing"

	"polynya/api"
	"polynya/breaker"
	"polynya/hull"
	"polynya/ice"
)

// P6.5: ships.

func TestCalm(t *testing.T) {
	pressed := func(c ice.Cell, lo, hi int) ice.Cell {
		c.Press = span(lo, hi)
		return c
	}
	soft := ship()
	soft.Brash = 20
	for i, c := range []struct {
		s    hull.Ship
		c    ice.Cell
		want int
		e    api.Errno
	}{
		{ship(), level(0, 100), 3, api.OK},
		// At the speed 10: 20 and 5 for each centimetre and 100 for each Press, at a thrust of 980.
		{ship(), level(132, 132), 3, api.OK},
		{ship(), level(133, 133), 2, api.OK},
		{ship(), level(0, 152), 2, api.OK},
		{ship(), level(0, 153), 1, api.OK},
		{ship(), level(0, 172), 1, api.OK},
		{ship(), level(0, 173), 0, api.OK},
		{ship(), level(0, 192), 0, api.OK},
		{ship(), level(0, 193), 0, api.ErrNone},
		// The Press of the cell does not count.
		{ship(), pressed(level(0, 153), 3, 3), 1, api.OK},
		{ship(), pressed(level(0, 153), 0, 0), 1, api.OK},
		{ship(), pressed(level(0, 153), 0, 3), 1, api.OK},
		// In a channel: the Ridge does not count, and the Ice by Brash.
		{ship(), ice.Cell{Conc: span(100, 100), Thick: span(132, 132), Ridge: span(0, 100)}, 3, api.OK},
		{soft, level(0, 400), 3, api.OK},
		{ship(), ice.Whole(), 0, api.ErrNone},
		{ship(), level(1, 0), 0, api.ErrIce},
		{ship(), pressed(level(0, 0), 2, 4), 0, api.ErrIce},
		{ship(), pressed(level(0, 0), -1, 0), 0, api.ErrIce},
		{hull.Ship{}, level(1, 0), 0, api.ErrClass},
		{hull.Ship{Class: 1}, level(1, 0), 0, api.ErrHull},
	} {
		if n, e := breaker.Calm(c.s, c.c); n != c.want || e != c.e {
			t.Error(i, n, e)
		}
	}
}

// Compared with each pressure, for many cells.
func TestCalmOfAnyCell(t *testing.T) {
	r := random()
	seen := map[int]int{}
	for range 400 {
		s := ship()
		s.Press, s.Brash = 50*r.IntN(12), 10*r.IntN(11)
		thick := r.IntN(250)
		c := ice.Cell{Conc: span(r.IntN(80), 80+r.IntN(21)), Thick: span(thick, thick+r.IntN(80)), Ridge: span(0, r.IntN(9)), Press: span(r.IntN(2), 1+r.IntN(3))}
		want, is := 0, api.ErrNone
		for press := range 4 {
			c.Press = span(press, press)
			if one, _, e := hull.Beset(s, c, true); !one && e == api.OK {
				want, is = press, api.OK
			}
		}
		n, e := breaker.Calm(s, c)
		if n != want || e != is {
			t.Fatal(s, c, n, e, want, is)
		}
		seen[n-int(e)]++
	}
	if len(seen) != 5 {
		t.Error("a Calm that no ship had", seen)
	}
}

func TestTable(t *testing.T) {
	s := ship()
	// In level ice of 40 to 60 she goes at 130 at least: 1300 in 600 minutes.
	for i, c := range []struct {
		legs [][][]hull.Part
		want [][]int
	}{
		{[][][]hull.Part{{nil}}, [][]int{{0}}},
		{[][][]hull.Part{{leg(9999)}}, [][]int{{0}}},
		{[][][]hull.Part{{nil, leg(130)}, {leg(131), nil}}, [][]int{{0, 1}, {2, 0}}},
		{[][][]hull.Part{{nil, leg(1)}, {leg(3120), nil}}, [][]int{{0, 1}, {24, 0}}},
		{[][][]hull.Part{{nil, leg(260), leg(390)}, {leg(520), nil, leg(650)}, {leg(780), leg(910), nil}}, [][]int{{0, 2, 3}, {4, 0, 5}, {6, 7, 0}}},
		// A leg of more parts: 60 minutes and 1.
		{[][][]hull.Part{{nil, append(leg(130), leg(1)...)}, {append(leg(65), leg(65)...), nil}}, [][]int{{0, 2}, {1, 0}}},
		// From a site to itself a wrong leg does not matter.
		{[][][]hull.Part{{leg(-1), leg(1)}, {leg(1), {{Cell: level(2, 1)}}}}, [][]int{{0, 1}, {1, 0}}},
		{slices.Repeat([][][]hull.Part{slices.Repeat([][]hull.Part{leg(200)}, 4)}, 4), [][]int{{0, 2, 2, 2}, {2, 0, 2, 2}, {2, 2, 0, 2}, {2, 2, 2, 0}}},
	} {
		if l, e := breaker.Table(s, c.legs); !reflect.DeepEqual(l, c.want) || e != api.OK {
			t.Error(i, l, e)
		}
	}
	// It is the greatest time that counts: 1530 takes 656 minutes at 140, in the least ice, and 707 at 130.
	if l, e := breaker.Table(s, [][][]hull.Part{{nil, leg(1530)}, {leg(1), nil}}); !reflect.DeepEqual(l, [][]int{{0, 12}, {1, 0}}) || e != api.OK {
		t.Error(l, e)
	}
}

func TestTableErrors(t *testing.T) {
	thick := []hull.Part{{Cell: level(300, 300), Length: 1}}
	heavy := []hull.Part{{Cell: ice.Cell{Conc: span(100, 100), Ridge: span(47, 47), Thick: span(1, 1)}, Length: 1}}
	for i, c := range []struct {
		legs [][][]hull.Part
		want api.Errno
	}{
		{nil, api.ErrMany},
		{make([][][]hull.Part, 5), api.ErrMany},
		{slices.Repeat([][][]hull.Part{slices.Repeat([][]hull.Part{leg(1)}, 5)}, 5), api.ErrMany},
		{[][][]hull.Part{{nil, leg(1)}}, api.ErrMany},
		{[][][]hull.Part{nil}, api.ErrMany},
		{[][][]hull.Part{{nil, leg(1)}, {leg(1)}}, api.ErrMany},
		// How many there are comes before each leg.
		{[][][]hull.Part{{nil, leg(0)}, {leg(1)}}, api.ErrMany},
		// A leg: too few parts, too many, a wrong length, a wrong cell, no safe speed, and a Class that does not suffice.
		{[][][]hull.Part{{nil, nil}, {leg(1), nil}}, api.ErrMany},
		{[][][]hull.Part{{nil, slices.Repeat(leg(1), 101)}, {leg(1), nil}}, api.ErrMany},
		{[][][]hull.Part{{nil, leg(0)}, {nil, nil}}, api.ErrRange},
		{[][][]hull.Part{{nil, leg(10001)}, {nil, nil}}, api.ErrRange},
		{[][][]hull.Part{{nil, {{Cell: level(2, 1), Length: 1}}}, {nil, nil}}, api.ErrIce},
		{[][][]hull.Part{{nil, thick}, {nil, nil}}, api.ErrNone},
		{[][][]hull.Part{{nil, heavy}, {nil, nil}}, api.ErrClass},
		{[][][]hull.Part{{nil, leg(3121)}, {nil, nil}}, api.ErrLarge},
		// The first leg decides, row by row.
		{[][][]hull.Part{{nil, leg(1)}, {thick, nil}}, api.ErrNone},
		{[][][]hull.Part{{nil, leg(1), leg(4000)}, {thick, nil, leg(1)}, {leg(1), leg(1), nil}}, api.ErrLarge},
		{[][][]hull.Part{{nil, leg(1), thick}, {leg(4000), nil, leg(1)}, {leg(1), leg(1), nil}}, api.ErrNone},
		{[][][]hull.Part{{nil, leg(1), leg(1)}, {leg(1), nil, leg(1)}, {leg(1), leg(-1), nil}}, api.ErrRange},
	} {
		if l, e := breaker.Table(ship(), c.legs); len(l) > 0 || e != c.want {
			t.Error(i, l, e)
		}
		if l, e := breaker.Table(hull.Ship{}, c.legs); len(l) > 0 || e != api.ErrClass {
			t.Error(i, l, e)
		}
	}
	if _, e := breaker.Table(hull.Ship{Class: 6}, nil); e != api.ErrHull {
		t.Error(e)
	}
}
