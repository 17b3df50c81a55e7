package hull_test

import (
	"testing"

	"polynya/api"
	"polynya/hull"
	"polynya/ice"
)

// P3.2: resistance and speeds.

func TestResistance(t *testing.T) {
	s := example()
	slow := changed(func(s *hull.Ship) { s.Slow = 10 })
	// In ice of the thickness n it is n times 1/400 of 1, and at the speed v it is v times 1/250 of 1 in water.
	fine := even(0)
	fine.Water, fine.Ice, fine.Brash = curve(0, 0, 250, 1), curve(0, 0, 400, 1), 50
	most := hull.Ship{
		Class: 6, Power: 100000, Draught: 2000, Tonnes: 500000,
		Thrust: curve(0, 20000, 250, 20000), Water: curve(0, 19999, 249, 20000), Ice: curve(0, 0, 399, 19999, 400, 20000),
		Slow: 20, Brash: 100, Ridge: 500, Press: 5000,
	}
	full := ice.Ice{Conc: 100, Thick: 400, Ridge: 100, Press: 3}
	for i, c := range []struct {
		s       hull.Ship
		in      ice.Ice
		v       int
		channel bool
		want    int
	}{
		// Those of example 2, and of example 3.
		{s, ice.Ice{Conc: 100, Thick: 50}, 100, false, 450},
		{s, ice.Ice{Conc: 100, Thick: 50}, 140, false, 530},
		{s, ice.Ice{Conc: 100, Thick: 50}, 134, false, 518},
		{s, ice.Ice{Conc: 100, Thick: 50}, 135, false, 520},
		{s, ice.Ice{Conc: 100, Thick: 50}, 136, false, 522},
		{s, ice.Ice{Conc: 100, Thick: 50}, 155, true, 360},
		{s, ice.Ice{Conc: 100, Thick: 150, Press: 3}, 10, false, 1070},
		{s, ice.Ice{Conc: 100, Thick: 150, Press: 2}, 10, false, 970},
		// Water counts up to its last point, and on.
		{s, ice.Ice{}, 0, false, 0},
		{s, ice.Ice{}, 200, false, 400},
		{s, ice.Ice{}, 250, false, 400},
		// Conc is a part of ice and of ridges; with none only pressure counts.
		{s, ice.Ice{Conc: 50, Thick: 100, Ridge: 8}, 0, false, 290},
		{s, ice.Ice{Conc: 0, Thick: 100, Ridge: 8}, 0, false, 0},
		{s, ice.Ice{Conc: 0, Thick: 100, Ridge: 8, Press: 3}, 10, false, 320},
		{s, ice.Ice{Conc: 1, Ridge: 1}, 0, false, 1},
		{s, ice.Ice{Conc: 11, Ridge: 1}, 0, false, 2},
		{s, ice.Ice{Conc: 10, Ridge: 1}, 0, false, 1},
		// In a channel there are no ridges, and brash; pressure counts.
		{s, ice.Ice{Conc: 100, Thick: 50, Ridge: 9}, 0, true, 50},
		{s, ice.Ice{Conc: 50, Thick: 50, Ridge: 9, Press: 2}, 0, true, 225},
		{s, ice.Ice{Conc: 0, Thick: 50, Ridge: 9, Press: 2}, 0, true, 200},
		{changed(func(s *hull.Ship) { s.Brash = 0 }), ice.Ice{Conc: 100, Thick: 50, Ridge: 9}, 0, true, 0},
		{changed(func(s *hull.Ship) { s.Brash = 100 }), ice.Ice{Conc: 100, Thick: 50, Ridge: 9}, 0, true, 250},
		// Slow makes more of ice, not of ridges, pressure or water.
		{slow, ice.Ice{Conc: 100, Thick: 50, Ridge: 2, Press: 1}, 100, false, 820},
		{slow, ice.Ice{Conc: 33, Thick: 50, Ridge: 2, Press: 1}, 100, true, 333},
		{slow, ice.Ice{Conc: 100, Ridge: 2, Press: 1}, 100, false, 320},
		{slow, ice.Ice{Conc: 100, Thick: 50}, 0, false, 250},
		// Just the sum is rounded, and up: 1/250, 1/400, both; 1/2 and 1/2; a bit more.
		{fine, ice.Ice{}, 1, false, 1},
		{fine, ice.Ice{Conc: 100, Thick: 1}, 0, false, 1},
		{fine, ice.Ice{Conc: 100, Thick: 1}, 1, false, 1},
		{fine, ice.Ice{Conc: 1, Thick: 1}, 1, false, 1},
		{fine, ice.Ice{Conc: 100, Thick: 200}, 125, false, 1},
		{fine, ice.Ice{Conc: 100, Thick: 201}, 125, false, 2},
		{fine, ice.Ice{Conc: 100, Thick: 200}, 126, false, 2},
		{fine, ice.Ice{Conc: 50, Thick: 400}, 125, false, 1},
		{fine, ice.Ice{Conc: 51, Thick: 400}, 125, false, 2},
		{fine, ice.Ice{Conc: 100, Thick: 400}, 125, true, 1},
		{fine, ice.Ice{Conc: 50, Thick: 400}, 188, true, 2},
		{fine, ice.Ice{Conc: 50, Thick: 400}, 187, true, 1},
		// The most that there can be: 20000, 6 times 20000, 50000 and 15000.
		{most, full, 250, false, 205000},
		{most, full, 250, true, 155000},
		{most, full, 0, false, 19999 + 20000 + 50000 + 15000},
	} {
		if n, e := hull.Resistance(c.s, c.in, c.v, c.channel); n != c.want || e != api.OK {
			t.Error(i, n, e)
		}
	}
}

func TestAnyResistance(t *testing.T) {
	r := random()
	for range 3000 {
		s, i, v, channel := anyShip(r), anyIce(r), r.IntN(251), r.IntN(2) == 0
		if n, e := hull.Resistance(s, i, v, channel); e != api.OK || n != resistanceOf(s, i, v, channel) {
			t.Fatal(s, i, v, channel, n, e)
		}
		if is, e := hull.Makes(s, i, v, channel); e != api.OK || is != makes(s, i, v, channel) {
			t.Fatal(s, i, v, channel, is, e)
		}
	}
}

func TestMakes(t *testing.T) {
	s := example()
	// The thrust of 10 2/5 and the resistance of 10 1/5 at the speed 1 are rounded apart: 10 and 11.
	apart := even(0)
	apart.Thrust, apart.Water = curve(0, 11, 5, 8, 250, 8), curve(0, 10, 5, 11)
	for i, c := range []struct {
		s       hull.Ship
		in      ice.Ice
		v       int
		channel bool
		want    bool
	}{
		{s, ice.Ice{Conc: 100, Thick: 50}, 130, false, true},
		{s, ice.Ice{Conc: 100, Thick: 50}, 134, false, true},
		{s, ice.Ice{Conc: 100, Thick: 50}, 135, false, true}, // 520 and 520
		{s, ice.Ice{Conc: 100, Thick: 50}, 136, false, false},
		{s, ice.Ice{Conc: 100, Thick: 50}, 155, true, true},
		{s, ice.Ice{Conc: 100, Thick: 50}, 156, true, false},
		{s, ice.Ice{Conc: 100, Thick: 200}, 0, false, true},
		{s, ice.Ice{Conc: 100, Thick: 201}, 0, false, false},
		{apart, ice.Ice{}, 0, false, true},
		{apart, ice.Ice{}, 1, false, false},
		// There is no speed above the top speed, though thrust and resistance would do.
		{even(0), ice.Ice{}, 250, false, true},
		{changed(func(s *hull.Ship) { s.Thrust, s.Water = curve(0, 9, 200, 9), curve(0, 0, 9, 0) }), ice.Ice{}, 200, false, true},
		{changed(func(s *hull.Ship) { s.Thrust, s.Water = curve(0, 9, 200, 9), curve(0, 0, 9, 0) }), ice.Ice{}, 201, false, false},
		{changed(func(s *hull.Ship) { s.Thrust, s.Water = curve(0, 9, 200, 9), curve(0, 0, 9, 0) }), ice.Ice{}, 250, false, false},
	} {
		if is, e := hull.Makes(c.s, c.in, c.v, c.channel); is != c.want || e != api.OK {
			t.Error(i, is, e)
		}
	}
}

func TestSpeed(t *testing.T) {
	s := example()
	for i, c := range []struct {
		s       hull.Ship
		in      ice.Ice
		channel bool
		want    int
	}{
		{s, ice.Ice{}, false, 160},
		{s, ice.Ice{}, true, 160},
		{s, ice.Ice{Conc: 100, Thick: 50}, false, 135},
		{s, ice.Ice{Conc: 100, Thick: 50}, true, 155},
		{s, ice.Ice{Conc: 50, Thick: 100}, false, 135},
		{s, ice.Ice{Conc: 0, Thick: 400, Ridge: 100}, false, 160},
		{s, ice.Ice{Conc: 100, Ridge: 25}, false, 135},
		{s, ice.Ice{Conc: 100, Ridge: 25}, true, 160},
		{s, ice.Ice{Press: 1}, false, 150},
		{s, ice.Ice{Conc: 100, Thick: 150, Press: 2}, false, 12},
		// She can make 0, or 1, and nothing more; or nothing.
		{s, ice.Ice{Conc: 100, Thick: 200}, false, 0},
		{s, ice.Ice{Conc: 100, Thick: 199}, false, 1},
		{s, ice.Ice{Conc: 100, Thick: 201}, false, 0},
		{s, ice.Ice{Conc: 100, Thick: 400}, false, 0},
		{s, ice.Ice{Conc: 100, Thick: 150, Press: 3}, false, 0},
		// Her top speed.
		{even(0), ice.Ice{}, false, 250},
		{even(0), ice.Ice{Conc: 100, Thick: 400, Ridge: 100, Press: 3}, false, 250},
		{changed(func(s *hull.Ship) { s.Thrust = curve(0, 1000, 10, 1000) }), ice.Ice{}, false, 10},
		{changed(func(s *hull.Ship) { s.Thrust = curve(0, 1000, 77, 1000) }), ice.Ice{Conc: 100, Thick: 9}, false, 77},
	} {
		if v, e := hull.Speed(c.s, c.in, c.channel); v != c.want || e != api.OK {
			t.Error(i, v, e)
		}
	}
}

func TestAnySpeed(t *testing.T) {
	r := random()
	for range 1500 {
		s, i, channel := anyShip(r), anyIce(r), r.IntN(2) == 0
		if v, e := hull.Speed(s, i, channel); e != api.OK || v != speedOf(s, i, channel) {
			t.Fatal(s, i, channel, v, e)
		}
	}
}

func TestSpeedsOfACell(t *testing.T) {
	s := example()
	for i, c := range []struct {
		c        ice.Cell
		channel  bool
		want     api.Span
		one, all bool
	}{
		{ice.Cell{}, false, sure(160), false, false},
		{level(50, 50), false, sure(135), false, false},
		{level(40, 60), false, span(130, 140), false, false},
		{level(50, 60), true, span(154, 155), false, false},
		{ice.Whole(), false, span(0, 160), true, false},
		{level(0, 400), true, span(120, 160), false, false},
		// At the speed 9 she is beset, at 10 she is not: 1000 - 2 v and 5 times the thickness and 2 v.
		{level(192, 192), false, sure(10), false, false},
		{level(192, 193), false, span(8, 10), true, false},
		{level(193, 193), false, sure(8), true, true},
		{level(193, 400), false, span(0, 8), true, true},
		{level(193, 400), true, span(120, 140), false, false},
		{ice.Cell{Conc: sure(100), Ridge: span(0, 100)}, false, span(0, 160), true, false},
		{ice.Cell{Conc: sure(100), Ridge: span(96, 97)}, false, span(7, 10), true, false},
		{ice.Cell{Conc: sure(100), Ridge: span(97, 98)}, false, span(5, 7), true, true},
		{ice.Cell{Conc: sure(100), Ridge: span(97, 98)}, true, sure(160), false, false},
		{ice.Cell{Conc: span(0, 100), Thick: sure(400)}, false, span(0, 160), true, false},
		{only(ice.Ice{Conc: 100, Thick: 150, Press: 3}), false, sure(0), true, true},
		{ice.Cell{Conc: sure(100), Thick: sure(150), Press: span(2, 3)}, false, span(0, 12), true, false},
	} {
		if v, e := hull.Speeds(s, c.c, c.channel); v != c.want || e != api.OK {
			t.Error(i, v, e)
		}
		if one, all, e := hull.Beset(s, c.c, c.channel); one != c.one || all != c.all || e != api.OK {
			t.Error(i, one, all, e)
		}
	}
	slow := even(9)
	slow.Water = curve(0, 0, 9, 9, 10, 10)
	if one, all, e := hull.Beset(slow, ice.Cell{}, false); !one || !all || e != api.OK {
		t.Error("she makes 9", one, all, e)
	}
	slow.Water = curve(0, 0, 10, 9, 11, 10)
	if one, all, e := hull.Beset(slow, ice.Cell{}, false); one || all || e != api.OK {
		t.Error("she makes 10", one, all, e)
	}
}

// All ices of a cell are tried.
func TestAnySpeedsOfACell(t *testing.T) {
	r := random()
	for range 400 {
		s, c, channel := anyShip(r), anyCell(r, 2), r.IntN(2) == 0
		var l []int
		one, all := false, true
		for _, i := range allIn(c) {
			v, _ := hull.Speed(s, i, channel)
			l = append(l, v)
			one, all = one || v < 10, all && v < 10
		}
		want := span(l[0], l[0])
		for _, v := range l {
			want = span(min(want.Lo, v), max(want.Hi, v))
		}
		if v, e := hull.Speeds(s, c, channel); v != want || e != api.OK {
			t.Fatal(s, c, channel, v, want, e)
		}
		if o, a, e := hull.Beset(s, c, channel); o != one || a != all || e != api.OK {
			t.Fatal(s, c, channel, o, a, e)
		}
	}
}
