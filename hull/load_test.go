package hull_test

import (
	"testing"

	"polynya/api"
	"polynya/hull"
	"polynya/ice"
)

// P3.3: loads, safe speeds, and what she burns. P3.4: limits.

func TestLoad(t *testing.T) {
	for i, c := range []struct {
		in      ice.Ice
		v       int
		channel bool
		want    int
	}{
		{ice.Ice{Conc: 100, Thick: 50}, 135, false, 11750},
		{ice.Ice{Conc: 100, Thick: 60, Ridge: 1}, 135, false, 14400},
		{ice.Ice{Conc: 100, Thick: 60}, 130, false, 13800},
		{ice.Ice{Conc: 1, Thick: 60, Ridge: 1}, 135, false, 14400},
		{ice.Ice{Conc: 1}, 250, false, 0},
		{ice.Ice{Conc: 1, Thick: 1}, 0, false, 100},
		{ice.Ice{Conc: 1, Ridge: 1}, 250, false, 300},
		{ice.Ice{Conc: 1, Press: 1}, 250, false, 2000},
		{ice.Ice{Conc: 100, Thick: 400, Ridge: 100, Press: 3}, 250, false, 176000},
		// Without Conc there is no load at all.
		{ice.Ice{Thick: 400, Ridge: 100, Press: 3}, 250, false, 0},
		{ice.Ice{Thick: 400, Ridge: 100, Press: 3}, 250, true, 0},
		{ice.Ice{Thick: 51, Ridge: 7, Press: 2}, 35, false, 0},
		// In a channel the ice counts half, rounded up, pressure whole, and ridges do not.
		{ice.Ice{Conc: 100, Thick: 51, Ridge: 7, Press: 2}, 35, true, 7443},
		{ice.Ice{Conc: 100, Thick: 50, Ridge: 7, Press: 2}, 35, true, 7375},
		{ice.Ice{Conc: 1, Thick: 1}, 1, true, 51},
		{ice.Ice{Conc: 1, Thick: 1}, 0, true, 50},
		{ice.Ice{Conc: 1, Ridge: 100}, 0, true, 0},
		{ice.Ice{Conc: 100, Thick: 400, Ridge: 100, Press: 3}, 250, true, 76000},
	} {
		if n, e := hull.Load(c.in, c.v, c.channel); n != c.want || e != api.OK {
			t.Error(i, n, e)
		}
	}
	r := random()
	for range 2000 {
		i, v, channel := anyIce(r), r.IntN(251), r.IntN(2) == 0
		if n, e := hull.Load(i, v, channel); n != loadOf(i, v, channel) || e != api.OK {
			t.Fatal(i, v, channel, n, e)
		}
	}
}

// loaded makes an ice and a speed at which its load is just so great.
func loaded(t *testing.T, load int) (ice.Ice, int) {
	for thick := 1; thick <= 400; thick++ {
		for v := range 251 {
			if rest := load - thick*(100+v); rest >= 0 && rest%300 == 0 && rest <= 300*100 {
				return ice.Ice{Conc: 1, Thick: thick, Ridge: rest / 300}, v
			}
		}
	}
	t.Fatal("no such ice", load)
	return ice.Ice{}, 0
}

func TestStrengths(t *testing.T) {
	for i, strength := range []int{4000, 8000, 14000, 24000, 40000, 90000} {
		s := changed(func(s *hull.Ship) { s.Class = i + 1 })
		for more, want := range []bool{false, true} {
			in, v := loaded(t, strength+more)
			if n, e := hull.Load(in, v, false); n != strength+more || e != api.OK {
				t.Error(i, in, v, n, e)
			}
			if one, all, e := hull.Beyond(s, only(in), v, false); one != want || all != want || e != api.OK {
				t.Error(i, in, v, one, all, e)
			}
		}
	}
}

func TestBeyond(t *testing.T) {
	s := example()
	for i, c := range []struct {
		c        ice.Cell
		v        int
		channel  bool
		one, all bool
	}{
		{level(50, 50), 135, false, false, false},
		{only(ice.Ice{Conc: 100, Thick: 60, Ridge: 1}), 135, false, true, true},
		{level(50, 60), 135, false, true, false}, // 11750 to 14100
		{level(50, 60), 135, true, false, false},
		{level(50, 60), 133, false, false, false},
		// A single ice of the cell without load, or with it.
		{ice.Cell{Conc: span(0, 1), Thick: sure(400)}, 100, false, true, false},
		{ice.Cell{Conc: span(0, 0), Thick: sure(400), Press: sure(3)}, 100, false, false, false},
		{ice.Cell{Conc: span(1, 100), Thick: sure(400)}, 100, false, true, true},
		{ice.Cell{Conc: sure(1), Thick: sure(40), Ridge: span(0, 20)}, 100, false, false, false}, // 8000, and 6000 or 6300
		{ice.Cell{Conc: sure(1), Thick: sure(40), Ridge: span(0, 21)}, 100, false, true, false},
		{ice.Cell{Conc: sure(1), Thick: sure(1), Ridge: span(46, 47)}, 100, false, true, false}, // 200, and 13800 or 14100
		{ice.Cell{Conc: sure(1), Thick: sure(1), Ridge: span(47, 47)}, 100, false, true, true},
		{ice.Cell{Conc: sure(1), Thick: sure(1), Ridge: span(47, 47)}, 100, true, false, false},
		{ice.Cell{Conc: sure(1), Thick: sure(50), Press: span(2, 3)}, 100, false, true, false}, // 10000, and 4000 or 6000
		{ice.Cell{Conc: sure(1), Thick: sure(100), Press: span(2, 3)}, 100, true, true, false},
		{ice.Whole(), 0, false, true, false},
		// Her own speed does not matter.
		{level(40, 41), 250, false, true, false},
	} {
		if one, all, e := hull.Beyond(s, c.c, c.v, c.channel); one != c.one || all != c.all || e != api.OK {
			t.Error(i, one, all, e)
		}
	}
}

func TestSafe(t *testing.T) {
	s := example()
	strong := func(class int) hull.Ship {
		s := even(20000)
		s.Class = class
		return s
	}
	for i, c := range []struct {
		s       hull.Ship
		c       ice.Cell
		channel bool
		want    int
		e       api.Errno
	}{
		{s, level(40, 60), false, 130, api.OK},
		{s, level(50, 50), false, 135, api.OK},
		{s, level(50, 50), true, 155, api.OK},
		{s, ice.Cell{}, false, 160, api.OK},
		{s, ice.Cell{Conc: sure(0), Thick: span(0, 400), Ridge: span(0, 100)}, false, 160, api.OK},
		// What she bears is less than what she can make: 70 times 200 are 14000.
		{s, level(70, 70), false, 100, api.OK},
		{s, level(0, 70), false, 100, api.OK},
		// She is beset in some ice of the cell.
		{s, level(40, 200), false, 0, api.ErrNone},
		{s, level(192, 193), false, 0, api.ErrNone},
		{s, ice.Whole(), false, 0, api.ErrNone},
		// She is not, but what is there is beyond her class at 10: 110 times 127 are 13970, and times 128 14080.
		{s, level(127, 127), false, 10, api.OK},
		{s, level(127, 128), false, 0, api.ErrClass},
		{s, level(140, 140), false, 0, api.ErrClass},
		{s, level(192, 192), false, 0, api.ErrClass},
		{s, level(140, 140), true, 100, api.OK},
		{s, level(255, 255), true, 0, api.ErrClass}, // 14025
		{s, level(254, 254), true, 10, api.OK},      // 13970
		// The greatest speed at which the load is at most the strength, however fast she is.
		{strong(1), level(20, 20), false, 100, api.OK},
		{strong(2), level(0, 40), false, 100, api.OK},
		{strong(3), level(70, 70), false, 100, api.OK},
		{strong(4), level(120, 120), false, 100, api.OK},
		{strong(5), level(200, 200), false, 100, api.OK},
		{strong(6), level(400, 400), false, 125, api.OK},
		{strong(6), level(400, 400), true, 250, api.OK},
		{strong(6), ice.Whole(), false, 35, api.OK}, // 400 times 135, 30000 and 6000
		{strong(1), ice.Cell{Conc: span(0, 1), Press: span(0, 3)}, false, 0, api.ErrClass},
		{strong(1), ice.Cell{Conc: span(0, 1), Press: span(0, 2)}, false, 250, api.OK},
		{strong(1), ice.Cell{Press: span(0, 3)}, false, 250, api.OK},
		{even(0), level(400, 400), false, 0, api.ErrClass},
		// That she is beset is said first, though all of it is beyond her class.
		{changed(func(s *hull.Ship) { s.Class = 1 }), level(300, 300), false, 0, api.ErrNone},
	} {
		if v, e := hull.Safe(c.s, c.c, c.channel); v != c.want || e != c.e {
			t.Error(i, v, e)
		}
	}
}

// All ices of a cell, and all speeds, are tried.
func TestAnySafe(t *testing.T) {
	r := random()
	came := map[api.Errno]int{}
	for range 2000 {
		s, c, channel := anyShip(r), anyCell(r, 2), r.IntN(2) == 0
		want, f := 250, api.OK
		for _, i := range allIn(c) {
			v, _ := hull.Speed(s, i, channel)
			want = min(want, v)
			if v < 10 {
				f = api.ErrNone
			}
			if loadOf(i, 10, channel) > strengthOf(s) && f == api.OK {
				f = api.ErrClass
			}
		}
		for _, i := range allIn(c) {
			if v, _ := hull.Speed(s, i, channel); v < 10 {
				f = api.ErrNone // before ErrClass
			}
			for want > 0 && loadOf(i, want, channel) > strengthOf(s) {
				want--
			}
		}
		if f != api.OK {
			want = 0
		}
		came[f]++
		if v, e := hull.Safe(s, c, channel); v != want || e != f {
			t.Fatal(s, c, channel, v, e, want, f)
		}
		v := r.IntN(251)
		one, all := false, true
		for _, i := range allIn(c) {
			beyond := loadOf(i, v, channel) > strengthOf(s)
			one, all = one || beyond, all && beyond
		}
		if o, a, e := hull.Beyond(s, c, v, channel); o != one || a != all || e != api.OK {
			t.Fatal(s, c, v, channel, o, a, e)
		}
	}
	if came[api.OK] < 40 || came[api.ErrNone] < 40 || came[api.ErrClass] < 40 {
		t.Error("too few of a kind", came)
	}
}

func TestBurn(t *testing.T) {
	s := example()
	for i, c := range []struct {
		s       hull.Ship
		in      ice.Ice
		v       int
		channel bool
		want    int
		e       api.Errno
	}{
		{s, ice.Ice{Conc: 100, Thick: 50}, 135, false, 2004, api.OK}, // 520 times 135 by 50
		{s, ice.Ice{Conc: 100, Thick: 50}, 136, false, 0, api.ErrNone},
		{s, ice.Ice{Conc: 100, Thick: 50}, 155, true, 1716, api.OK}, // 360 times 155 by 50
		{s, ice.Ice{Conc: 100, Thick: 50}, 156, true, 0, api.ErrNone},
		{s, ice.Ice{}, 0, false, 600, api.OK},
		{s, ice.Ice{Conc: 100, Thick: 201}, 0, false, 0, api.ErrNone},
		{s, ice.Ice{}, 201, false, 0, api.ErrNone},
		{s, ice.Ice{}, 250, false, 0, api.ErrNone},
		// 2 times 1, 50 times 1, and 51 times 1, by 50, rounded up.
		{s, ice.Ice{}, 1, false, 601, api.OK},
		{s, ice.Ice{Conc: 100, Ridge: 5}, 0, false, 600, api.OK},
		{changed(func(s *hull.Ship) { s.Water = curve(0, 50, 200, 50) }), ice.Ice{}, 1, false, 601, api.OK},
		{changed(func(s *hull.Ship) { s.Water = curve(0, 51, 200, 51) }), ice.Ice{}, 1, false, 602, api.OK},
		{changed(func(s *hull.Ship) { s.Water = curve(0, 49, 200, 49) }), ice.Ice{}, 2, false, 602, api.OK},
		{changed(func(s *hull.Ship) { s.Water = curve(0, 0, 200, 0) }), ice.Ice{}, 9, false, 600, api.OK},
		// A tenth of her power, rounded down by itself.
		{changed(func(s *hull.Ship) { s.Power = 109 }), ice.Ice{}, 0, false, 10, api.OK},
		{changed(func(s *hull.Ship) { s.Power = 109 }), ice.Ice{}, 1, false, 11, api.OK},
		{changed(func(s *hull.Ship) { s.Power = 110 }), ice.Ice{}, 1, false, 12, api.OK},
		{changed(func(s *hull.Ship) { s.Power = 100000 }), ice.Ice{}, 0, false, 10000, api.OK},
	} {
		if n, e := hull.Burn(c.s, c.in, c.v, c.channel); n != c.want || e != c.e {
			t.Error(i, n, e)
		}
	}
}

func TestLimit(t *testing.T) {
	s := example()
	for i, c := range []struct {
		s       hull.Ship
		v       int
		channel bool
		want    int
		e       api.Errno
	}{
		{s, 0, false, 200, api.OK},
		{s, 10, false, 192, api.OK},
		{s, 100, false, 120, api.OK},
		{s, 134, false, 52, api.OK},
		{s, 135, false, 50, api.OK},
		{s, 136, false, 48, api.OK},
		{s, 160, false, 0, api.OK},
		{s, 161, false, 0, api.ErrNone},
		{s, 201, false, 0, api.ErrNone},
		{s, 250, false, 0, api.ErrNone},
		{s, 155, true, 50, api.OK},
		{s, 160, true, 0, api.OK},
		{s, 120, true, 400, api.OK},
		{s, 121, true, 390, api.OK},
		{even(0), 250, false, 400, api.OK},
		{changed(func(s *hull.Ship) { s.Ice = curve(0, 0, 399, 0, 400, 20000) }), 10, false, 399, api.OK},
		{changed(func(s *hull.Ship) { s.Ice = curve(0, 0, 1, 20000, 400, 20000) }), 10, false, 0, api.OK},
		{changed(func(s *hull.Ship) { s.Water = curve(0, 1001, 200, 1001) }), 0, false, 0, api.ErrNone},
		// Ridges and pressure are none, and what is beyond her class does not matter.
		{changed(func(s *hull.Ship) { s.Ridge, s.Press, s.Class = 500, 5000, 1 }), 10, false, 192, api.OK},
	} {
		if n, e := hull.Limit(c.s, c.v, c.channel); n != c.want || e != c.e {
			t.Error(i, n, e)
		}
	}
}

func TestSlower(t *testing.T) {
	s := example()
	weak := changed(func(s *hull.Ship) { s.Ice[1].Y = 2400 })
	thin := changed(func(s *hull.Ship) { s.Ice = curve(0, 0, 399, 0, 400, 20000) })
	free := changed(func(s *hull.Ship) { s.Ice = curve(0, 0, 400, 0) })
	// Brisk is faster in open water, and in ice slower: (1200 - 10 T) / 6.8 and (1000 - 5 T) / 6 at the thickness T are 154.4 and 154.2 at 15, and 152.9 and 153.3 at 16.
	quick := changed(func(s *hull.Ship) { s.Thrust = curve(0, 1000, 250, 0) })
	brisk := changed(func(s *hull.Ship) { s.Thrust, s.Ice = curve(0, 1200, 250, 0), curve(0, 0, 400, 4000) })
	// Once is slower just in ice of 50 to 59: there it is to her as ice of 60 is to others.
	once := changed(func(s *hull.Ship) { s.Ice = curve(0, 0, 49, 245, 50, 300, 60, 300, 400, 2000) })
	for i, c := range []struct {
		a, b hull.Ship
		want int
		e    api.Errno
	}{
		{weak, s, 2, api.OK},
		{s, weak, 0, api.ErrNone},
		{s, s, 0, api.ErrNone},
		{even(0), even(0), 0, api.ErrNone},
		{thin, free, 400, api.OK},
		{free, thin, 0, api.ErrNone},
		{s, even(0), 0, api.OK},
		{even(0), s, 0, api.ErrNone},
		{quick, brisk, 0, api.OK},
		{brisk, quick, 16, api.OK},
		{once, s, 50, api.OK},
		{s, once, 0, api.ErrNone},
		// Brash does not matter, nor do ridges, pressure and the class.
		{changed(func(s *hull.Ship) { s.Brash, s.Ridge, s.Press, s.Class = 100, 500, 5000, 1 }), s, 0, api.ErrNone},
	} {
		if n, e := hull.Slower(c.a, c.b); n != c.want || e != c.e {
			t.Error(i, n, e)
		}
	}
}

// All thicknesses are tried.
func TestAnyLimits(t *testing.T) {
	r := random()
	found := 0
	for range 60 {
		a, b, v, channel := anyShip(r), anyShip(r), r.IntN(120), r.IntN(2) == 0
		limit, lf, slower, sf := 0, api.ErrNone, 0, api.ErrNone
		for thick := 400; thick >= 0; thick-- {
			i := ice.Ice{Conc: 100, Thick: thick}
			if is, _ := hull.Makes(a, i, v, channel); is && lf != api.OK {
				limit, lf = thick, api.OK
			}
			x, _ := hull.Speed(a, i, false)
			if y, _ := hull.Speed(b, i, false); x < y {
				slower, sf = thick, api.OK
			}
		}
		if slower > 0 {
			found++
		}
		if n, e := hull.Limit(a, v, channel); n != limit || e != lf {
			t.Fatal(a, v, channel, n, e, limit, lf)
		}
		if n, e := hull.Slower(a, b); n != slower || e != sf {
			t.Fatal(a, b, n, e, slower, sf)
		}
	}
	if found < 5 {
		t.Error("too few that are slower just in ice", found)
	}
}
