package convoy_test

import (
	"slices"
	"testing"

	"polynya/api"
	"polynya/convoy"
	"polynya/hull"
	"polynya/ice"
)

// P5.5: legs.

// part is a part of a leg.
func part(c ice.Cell, length int) hull.Part { return hull.Part{Cell: c, Length: length} }

func TestLeg(t *testing.T) {
	slow := changed(func(c *convoy.Convoy) { c.Breaker.Ship.Thrust = curve(0, 1000, 10, 1000) })
	for i, c := range []struct {
		c      convoy.Convoy
		l      []hull.Part
		speeds []int
		time   int
	}{
		// 6000 by 130, and 480 by 100.
		{lead(2), []hull.Part{part(level(40, 60), 100), part(pressed(0, 1), 8)}, []int{130, 100}, 47 + 5},
		// Whether a part has a channel does not matter.
		{lead(2), []hull.Part{{Cell: level(40, 60), Channel: true, Length: 100}, {Cell: pressed(0, 1), Channel: true, Length: 8}}, []int{130, 100}, 47 + 5},
		// 160 at 160 takes 60 minutes, 161 one more; each part is rounded up by itself.
		{lead(2), []hull.Part{part(ice.Cell{}, 160)}, []int{160}, 60},
		{lead(2), []hull.Part{part(ice.Cell{}, 161)}, []int{160}, 61},
		{lead(2), []hull.Part{part(ice.Cell{}, 1), part(ice.Cell{}, 1), part(ice.Cell{}, 1)}, []int{160, 160, 160}, 3},
		{lead(2), []hull.Part{part(ice.Cell{}, 10000)}, []int{160}, 3750},
		{slow, []hull.Part{part(ice.Cell{}, 10000)}, []int{10}, 60000},
		{slow, []hull.Part{part(ice.Cell{}, 1)}, []int{10}, 6},
		// The greatest speed, not the greatest one of the first span.
		{steep(), []hull.Part{part(level(40, 60), 130)}, []int{130}, 60},
		{lead(0), []hull.Part{part(pressed(0, 3), 33)}, []int{33}, 60},
	} {
		if l, n, e := convoy.Leg(c.c, c.l); !slices.Equal(l, c.speeds) || n != c.time || e != api.OK {
			t.Error(i, l, n, e)
		}
	}
}

func TestLegErrors(t *testing.T) {
	good, closed, wrong := part(level(40, 60), 8), part(pressed(0, 3), 8), part(level(0, 401), 8)
	for i, c := range []struct {
		l    []hull.Part
		n    int
		want api.Errno
	}{
		{nil, 0, api.ErrMany},
		{slices.Repeat([]hull.Part{good}, 100), 100 * 4, api.OK},
		{slices.Repeat([]hull.Part{good}, 101), 0, api.ErrMany},
		{slices.Repeat([]hull.Part{wrong}, 101), 0, api.ErrMany},
		{[]hull.Part{part(level(40, 60), 0)}, 0, api.ErrRange},
		{[]hull.Part{part(level(40, 60), -1)}, 0, api.ErrRange},
		{[]hull.Part{part(level(40, 60), 10001)}, 0, api.ErrRange},
		{[]hull.Part{part(level(40, 60), 1<<62)}, 0, api.ErrRange},
		{[]hull.Part{good, part(level(40, 60), 10001)}, 0, api.ErrRange},
		{[]hull.Part{good, wrong}, 0, api.ErrIce},
		{[]hull.Part{part(level(60, 40), 8)}, 0, api.ErrIce},
		// Part by part, the Length before the cell; then those in which no speed holds.
		{[]hull.Part{part(level(0, 401), 0)}, 0, api.ErrRange},
		{[]hull.Part{wrong, part(level(40, 60), 0)}, 0, api.ErrIce},
		{[]hull.Part{part(level(40, 60), 0), wrong}, 0, api.ErrRange},
		{[]hull.Part{closed, wrong}, 0, api.ErrIce},
		{[]hull.Part{closed, part(level(40, 60), 0)}, 0, api.ErrRange},
		// The first part in which none holds, and its index.
		{[]hull.Part{closed}, 0, api.ErrNone},
		{[]hull.Part{closed, good}, 0, api.ErrNone},
		{[]hull.Part{good, closed}, 1, api.ErrNone},
		{[]hull.Part{good, good, part(level(300, 300), 9), closed}, 2, api.ErrNone},
		{append(slices.Repeat([]hull.Part{good}, 99), closed), 99, api.ErrNone},
	} {
		if l, n, e := convoy.Leg(lead(2), c.l); n != c.n || e != c.want || e != api.OK && l != nil {
			t.Error(i, l, n, e)
		}
	}
	if l, n, e := convoy.Leg(lead(7), nil); l != nil || n != 0 || e != api.ErrMany {
		t.Error(l, n, e)
	}
	if l, n, e := convoy.Leg(changed(func(c *convoy.Convoy) { c.Clear = -1 }), nil); l != nil || n != 0 || e != api.ErrSpace {
		t.Error(l, n, e)
	}
}

func TestLegOfAnyConvoy(t *testing.T) {
	r := random()
	whole, stopped := 0, 0
	for range 150 {
		c := anyConvoy(r, 4)
		var l []hull.Part
		var speeds []int
		time, want := 0, api.OK
		for i := range 1 + r.IntN(3) {
			p := hull.Part{Cell: anyCell(r), Channel: r.IntN(2) == 0, Length: 1 + r.IntN(300)}
			l = append(l, p)
			if want != api.OK {
				continue
			}
			v := fastestOf(c, p.Cell)
			if v == 0 {
				speeds, time, want = nil, i, api.ErrNone
				continue
			}
			_, takes := rounded(60*p.Length, v)
			speeds, time = append(speeds, v), time+takes
		}
		got, n, e := convoy.Leg(c, l)
		if !slices.Equal(got, speeds) || n != time || e != want {
			t.Fatal(c, l, got, n, e, speeds, time, want)
		}
		if e == api.OK {
			whole++
		} else if n > 0 {
			stopped++
		}
	}
	if whole < 30 || stopped < 5 {
		t.Error("too few of a kind", whole, stopped)
	}
}
