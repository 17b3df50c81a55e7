package hull_test

import (
	"slices"
	"testing"

	"polynya/api"
	"polynya/hull"
	"polynya/ice"
)

// P3.5: legs, and how long she waits.

// part is a part of a leg, not in a channel.
func part(c ice.Cell, length int) hull.Part { return hull.Part{Cell: c, Length: length} }

func TestLeg(t *testing.T) {
	s := example()
	strong := even(20000)
	for i, c := range []struct {
		s      hull.Ship
		l      []hull.Part
		speeds []int
		time   api.Span
	}{
		// 6000 by 130 and by 140, and in a channel 1860 by 155.
		{s, []hull.Part{part(level(40, 60), 100), {Cell: level(50, 50), Channel: true, Length: 31}}, []int{130, 155}, span(55, 59)},
		{s, []hull.Part{part(level(40, 60), 100)}, []int{130}, span(43, 47)},
		{s, []hull.Part{part(ice.Cell{}, 80)}, []int{160}, sure(30)},
		{s, []hull.Part{part(ice.Cell{}, 1)}, []int{160}, sure(1)},
		// Each part is rounded up by itself: 60, and 60 and a bit.
		{s, []hull.Part{part(ice.Cell{}, 160), part(ice.Cell{}, 161)}, []int{160, 160}, sure(60 + 61)},
		{s, []hull.Part{part(ice.Cell{}, 1), part(ice.Cell{}, 1), part(ice.Cell{}, 1)}, []int{160, 160, 160}, sure(3)},
		// The greatest Length: 600000 by 160, and by 10.
		{s, []hull.Part{part(ice.Cell{}, 10000)}, []int{160}, sure(3750)},
		{changed(func(s *hull.Ship) { s.Thrust = curve(0, 1000, 10, 1000) }), []hull.Part{part(ice.Cell{}, 10000)}, []int{10}, sure(60000)},
		// At least: the greatest speed at which some ice is not beyond her class, here 20 to 25 centimetres: 100 and 60.
		{strong, []hull.Part{part(level(20, 25), 100)}, []int{60}, span(60, 100)},
		// In ice of 60 to 70 she makes 130 and 120, but bears 133 and 100.
		{s, []hull.Part{part(level(60, 70), 100)}, []int{100}, span(47, 60)},
		{s, []hull.Part{part(level(70, 80), 100)}, []int{75}, span(60, 80)},
		// Without Conc there is no load.
		{strong, []hull.Part{part(ice.Cell{Conc: span(0, 100), Thick: sure(20)}, 100)}, []int{100}, span(24, 60)},
	} {
		speeds, time, e := hull.Leg(c.s, c.l)
		if e != api.OK || !slices.Equal(speeds, c.speeds) || time != c.time {
			t.Error(i, speeds, time, e)
		}
	}
}

func TestPartsOfALeg(t *testing.T) {
	s := example()
	for _, n := range []int{0, 1, 99, 100, 101, 5000} {
		speeds, time, e := hull.Leg(s, slices.Repeat([]hull.Part{part(level(40, 60), 100)}, n))
		if n == 0 || n > 100 {
			if len(speeds) != 0 || time != (api.Span{}) || e != api.ErrMany {
				t.Error(n, len(speeds), time, e)
			}
			continue
		}
		if !slices.Equal(speeds, slices.Repeat([]int{130}, n)) || time != span(43*n, 47*n) || e != api.OK {
			t.Error(n, len(speeds), time, e)
		}
	}
	for _, length := range append([]int{10000, 10001}, wild...) {
		want := api.OK
		if length < 1 || length > 10000 {
			want = api.ErrRange
		}
		if _, _, e := hull.Leg(s, []hull.Part{part(ice.Cell{}, 9), part(ice.Cell{}, length)}); e != want {
			t.Error(length, e)
		}
	}
	if speeds, time, e := hull.Leg(changed(func(s *hull.Ship) { s.Thrust = curve(0, 1000, 10, 1000) }), slices.Repeat([]hull.Part{part(ice.Cell{}, 10000)}, 100)); len(speeds) != 100 || time != sure(6000000) || e != api.OK {
		t.Error(len(speeds), time, e)
	}
}

func TestLegErrors(t *testing.T) {
	s := example()
	right, long, upside := part(level(0, 9), 1), part(level(0, 9), 10001), part(level(2, 1), 1)
	both := part(level(2, 1), 0)
	besets, breaks := part(level(0, 300), 1), part(level(0, 140), 1)
	for i, c := range []struct {
		s  hull.Ship
		l  []hull.Part
		at int
		e  api.Errno
	}{
		{hull.Ship{}, nil, 0, api.ErrClass},
		{hull.Ship{Class: 1}, []hull.Part{both}, 0, api.ErrHull},
		{s, nil, 0, api.ErrMany},
		{s, []hull.Part{}, 0, api.ErrMany},
		{s, slices.Repeat([]hull.Part{both}, 101), 0, api.ErrMany},
		{s, []hull.Part{both}, 0, api.ErrRange},
		{s, []hull.Part{right, both}, 0, api.ErrRange},
		{s, []hull.Part{right, long, upside}, 0, api.ErrRange},
		{s, []hull.Part{right, upside, long}, 0, api.ErrIce},
		// What is not allowed comes first, wherever it is.
		{s, []hull.Part{besets, breaks, upside}, 0, api.ErrIce},
		{s, []hull.Part{breaks, besets, long}, 0, api.ErrRange},
		{s, []hull.Part{besets}, 0, api.ErrNone},
		{s, []hull.Part{breaks}, 0, api.ErrClass},
		{s, []hull.Part{right, besets, breaks}, 1, api.ErrNone},
		{s, []hull.Part{right, right, breaks, besets}, 2, api.ErrClass},
		{s, append(slices.Repeat([]hull.Part{right}, 99), breaks), 99, api.ErrClass},
		{s, append(slices.Repeat([]hull.Part{right}, 99), besets), 99, api.ErrNone},
	} {
		if l, m, e := hull.Leg(c.s, c.l); len(l) != 0 || m != (api.Span{Lo: c.at}) || e != c.e {
			t.Error(i, l, m, e)
		}
	}
}

// bestIn is the greatest speed that a ship can make in some ice of a cell in which it is not beyond her class: all are tried.
func bestIn(s hull.Ship, p hull.Part) int {
	best := 0
	for _, i := range allIn(p.Cell) {
		v, _ := hull.Speed(s, i, p.Channel)
		for loadOf(i, v, p.Channel) > strengthOf(s) {
			v--
		}
		best = max(best, v)
	}
	return best
}

func TestAnyLeg(t *testing.T) {
	r := random()
	whole := 0
	for range 600 {
		s := anyShip(r)
		var l []hull.Part
		for range 1 + r.IntN(4) {
			l = append(l, hull.Part{Cell: anyCell(r, 2), Channel: r.IntN(3) > 0, Length: 1 + r.IntN(1+r.IntN(10000))})
		}
		var want []int
		var time api.Span
		f := api.OK
		for i, p := range l {
			v, e := hull.Safe(s, p.Cell, p.Channel)
			if e != api.OK {
				want, time, f = nil, span(i, 0), e
				break
			}
			want = append(want, v)
			time.Lo += roundedUp(ratio(60*p.Length, bestIn(s, p)))
			time.Hi += roundedUp(ratio(60*p.Length, v))
		}
		if f == api.OK {
			whole++
		}
		if speeds, m, e := hull.Leg(s, l); !slices.Equal(speeds, want) || m != time || e != f {
			t.Fatal(s, l, speeds, m, e, want, time, f)
		}
	}
	if whole < 100 {
		t.Error("too few legs that she can go", whole)
	}
}

func TestFree(t *testing.T) {
	// In ice of 150 she is beset just at the Press 3; in ice of 150 to 180 at 2 (or 1) in some, but in none at 0, and at 3 in all.
	s, c, wide := example(), level(150, 150), level(150, 180)
	for i, x := range []struct {
		c    ice.Cell
		h    []api.Span
		want api.Span
		e    api.Errno
	}{
		{c, []api.Span{sure(3), span(2, 3), span(0, 2)}, span(1, 2), api.OK},
		{c, []api.Span{sure(0)}, sure(0), api.OK},
		{c, []api.Span{span(0, 2)}, sure(0), api.OK},
		{c, []api.Span{sure(3), sure(3), sure(2)}, sure(2), api.OK},
		{c, []api.Span{span(0, 3), sure(3), span(1, 3), sure(0)}, span(0, 3), api.OK},
		{c, []api.Span{sure(3), span(0, 3), sure(1), sure(3), sure(0)}, span(1, 2), api.OK},
		{c, []api.Span{span(0, 3)}, api.Span{}, api.ErrNone},
		{c, []api.Span{sure(3)}, api.Span{}, api.ErrNone},
		{c, nil, api.Span{}, api.ErrNone},
		{c, []api.Span{}, api.Span{}, api.ErrNone},
		// The ice of the cell counts, not just its pressure, and not the pressure that the cell has itself.
		{wide, []api.Span{sure(3), sure(2), sure(1), sure(0)}, span(1, 3), api.OK},
		{wide, []api.Span{sure(3), sure(2), sure(2)}, api.Span{}, api.ErrNone},
		{ice.Cell{Conc: sure(100), Thick: sure(150), Press: sure(3)}, []api.Span{sure(0)}, sure(0), api.OK},
		{ice.Cell{Conc: sure(100), Thick: sure(150)}, []api.Span{sure(3), sure(2)}, sure(1), api.OK},
		{level(193, 193), []api.Span{sure(0)}, api.Span{}, api.ErrNone},
		{level(192, 192), []api.Span{sure(1), sure(0)}, sure(1), api.OK},
		{ice.Cell{}, []api.Span{sure(3)}, sure(0), api.OK},
		// She is not in a channel, whatever the brash.
		{level(400, 400), []api.Span{sure(0)}, api.Span{}, api.ErrNone},
		// What is beyond her class does not matter.
		{level(190, 190), []api.Span{sure(0)}, sure(0), api.OK},
	} {
		if m, e := hull.Free(s, x.c, x.h); m != x.want || e != x.e {
			t.Error(i, m, e)
		}
	}
	for _, n := range []int{239, 240, 241, 5000} {
		h := append(slices.Repeat([]api.Span{sure(3)}, n-1), sure(0))
		m, e := hull.Free(s, c, h)
		if n <= 240 && (m != sure(n-1) || e != api.OK) || n > 240 && (m != api.Span{} || e != api.ErrMany) {
			t.Error(n, m, e)
		}
	}
}

func TestFreeErrors(t *testing.T) {
	s, c := example(), level(150, 150)
	wrong := []api.Span{{Lo: 0, Hi: 4}, {Lo: -1, Hi: 0}, {Lo: 2, Hi: 1}, {Lo: 3, Hi: 2}, {Lo: 4, Hi: 4}, {Lo: -1, Hi: -1}, {Lo: 4, Hi: 3}, {Lo: 0, Hi: -1}, {Lo: -1 << 63, Hi: 1<<63 - 1}, {Lo: 1<<63 - 1, Hi: -1 << 63}}
	for i, w := range wrong {
		// Also where the answer does not depend on it.
		for _, h := range [][]api.Span{{w}, {sure(0), w}, {sure(3), w, sure(0)}} {
			if m, e := hull.Free(s, c, h); m != (api.Span{}) || e != api.ErrRange {
				t.Error(i, h, m, e)
			}
		}
	}
	for i, x := range []struct {
		s hull.Ship
		c ice.Cell
		h []api.Span
		e api.Errno
	}{
		{hull.Ship{Class: 7}, level(2, 1), slices.Repeat(wrong, 30), api.ErrClass},
		{hull.Ship{Class: 6}, level(2, 1), slices.Repeat(wrong, 30), api.ErrHull},
		{s, level(2, 1), slices.Repeat(wrong, 30), api.ErrIce},
		{s, ice.Cell{Press: span(0, 4)}, []api.Span{sure(0)}, api.ErrIce},
		{s, ice.Cell{Press: span(2, 1)}, []api.Span{sure(0)}, api.ErrIce},
		{s, c, slices.Repeat(wrong, 30), api.ErrMany},
		{s, c, make([]api.Span, 241), api.ErrMany},
		{s, c, slices.Repeat(wrong, 24), api.ErrRange},
		{s, level(193, 193), slices.Repeat(wrong, 24), api.ErrRange},
		{s, level(193, 193), make([]api.Span, 240), api.ErrNone},
	} {
		if m, e := hull.Free(x.s, x.c, x.h); m != (api.Span{}) || e != x.e {
			t.Error(i, m, e)
		}
	}
}

// All ices of all hours are tried.
func TestAnyFree(t *testing.T) {
	r := random()
	found := 0
	for range 400 {
		s, c := anyShip(r), anyCell(r, 1)
		s.Press *= 5
		var h []api.Span
		for range r.IntN(8) {
			lo := r.IntN(4)
			h = append(h, span(lo, lo+r.IntN(4-lo)))
		}
		slices.SortStableFunc(h, func(a, b api.Span) int { return b.Hi - a.Hi })
		lo, hi := -1, -1
		for hour, p := range h {
			c.Press = p
			one, all := false, true
			for _, i := range allIn(c) {
				v, _ := hull.Speed(s, i, false)
				one, all = one || v < 10, all && v < 10
			}
			if lo < 0 && !all {
				lo = hour
			}
			if hi < 0 && !one {
				hi = hour
			}
		}
		want, f := span(lo, hi), api.OK
		if hi < 0 {
			want, f = api.Span{}, api.ErrNone
		}
		if lo < hi {
			found++
		}
		c.Press = span(0, 3)
		if m, e := hull.Free(s, c, h); m != want || e != f {
			t.Fatal(s, c, h, m, e, want, f)
		}
	}
	if found < 20 {
		t.Error("too few that may wait longer", found)
	}
}
