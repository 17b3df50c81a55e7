package convoy_test

import (
	"slices"
	"testing"

	"polynya/api"
	"polynya/convoy"
	"polynya/ice"
)

// P5.3: speeds.

// strong is a member who makes every speed in thin ice.
func strong() convoy.Member {
	return like(func(m *convoy.Member) {
		m.Ship.Class, m.Ship.Thrust, m.Stop = 6, curve(0, 20000, 250, 20000), curve(0, 0, 250, 1000)
	})
}

func TestSpeeds(t *testing.T) {
	alone := convoy.Convoy{Breaker: strong()}
	both := convoy.Convoy{Breaker: strong(), Ships: []convoy.Member{strong()}, Close: [4]int{60, 60, 60, 60}}
	for i, c := range []struct {
		c    convoy.Convoy
		cell ice.Cell
		want []api.Span
	}{
		{lead(2), level(40, 60), []api.Span{span(10, 130)}},
		{lead(2), pressed(0, 1), []api.Span{span(60, 100)}},
		{lead(2), level(0, 0), []api.Span{span(10, 160)}},
		// Nobody can go.
		{lead(2), level(300, 300), nil},
		{lead(0), level(300, 300), nil},
		// The channel closes at once.
		{lead(2), pressed(0, 3), nil},
		{lead(0), pressed(0, 3), []api.Span{span(10, 33)}},
		// The greatest Press of the cell counts, and no other one.
		{lead(2), pressed(1, 1), []api.Span{span(60, 100)}},
		// The tail passes on both sides of speeds at which it does not.
		{steep(), level(40, 60), []api.Span{span(10, 58), span(71, 130)}},
		{steep(), level(0, 0), []api.Span{span(10, 58), span(71, 160)}},
		// From the least speed to the greatest.
		{alone, level(0, 0), []api.Span{span(10, 250)}},
		{both, level(0, 0), []api.Span{span(10, 250)}},
	} {
		if l, e := convoy.Speeds(c.c, c.cell); !slices.Equal(l, c.want) || e != api.OK {
			t.Error(i, l, e)
		}
		v, e := convoy.Fastest(c.c, c.cell)
		if len(c.want) == 0 && (v != 0 || e != api.ErrNone) {
			t.Error(i, v, e)
		}
		if n := len(c.want); n > 0 && (v != c.want[n-1].Hi || e != api.OK) {
			t.Error(i, v, e)
		}
		for v := range 251 {
			want := slices.ContainsFunc(c.want, func(s api.Span) bool { return s.Lo <= v && v <= s.Hi })
			if is, e := convoy.Holds(c.c, c.cell, v); is != want || e != api.OK {
				t.Error(i, v, is, e)
			}
		}
	}
}

// A tail that is just what the channel is open for, and one more: 926 metres at 100.
func TestTailAndChannel(t *testing.T) {
	c := lead(1)
	c.Close[0], c.Close[1], c.Close[2] = 3, 3, 2
	for length, want := range map[int]bool{320: true, 321: true, 322: false} {
		c.Ships[0].Length = length
		tail, _ := convoy.Tail(c, 100)
		open, _ := convoy.Open(c, 100, 0)
		if is, e := convoy.Holds(c, level(40, 60), 100); is != want || tail <= open != want || e != api.OK {
			t.Error(length, tail, open, is, e)
		}
	}
}

// The Breaker goes in the ice, the ships behind her in the channel: ships that are alike make a lesser speed in the ice.
func TestSafeSpeeds(t *testing.T) {
	for i, c := range []struct {
		change func(c *convoy.Convoy)
		want   int
	}{
		{func(c *convoy.Convoy) {}, 130},
		// In the channel, ships of this kind make 154.
		{func(c *convoy.Convoy) { c.Breaker = strong() }, 154},
		{func(c *convoy.Convoy) { c.Breaker, c.Ships[0] = strong(), strong() }, 154},
		{func(c *convoy.Convoy) { c.Breaker, c.Ships[1] = strong(), strong() }, 154},
		{func(c *convoy.Convoy) { c.Breaker, c.Ships[0].Ship.Brash = strong(), 100 }, 130},
		{func(c *convoy.Convoy) { c.Breaker, c.Ships[1].Ship.Brash = strong(), 100 }, 130},
		{func(c *convoy.Convoy) { c.Breaker.Ship.Brash = 0 }, 130},
		// Beyond her class: the load in a channel is half of 60 times 100 and the speed, the strength 4000.
		{func(c *convoy.Convoy) { c.Ships[1].Ship.Class = 1 }, 33},
		{func(c *convoy.Convoy) { c.Breaker.Ship.Class = 2 }, 33},
		// Beyond the class of the Breaker at MinSpeed; and one who is beset, first a ship, then the Breaker.
		{func(c *convoy.Convoy) { c.Breaker.Ship.Class = 1 }, 0},
		{func(c *convoy.Convoy) { c.Ships[1].Ship.Thrust = curve(0, 9, 200, 0) }, 0},
		{func(c *convoy.Convoy) { c.Breaker.Ship.Thrust = curve(0, 9, 200, 0) }, 0},
	} {
		x := changed(c.change)
		v, e := convoy.Fastest(x, level(40, 60))
		if v != c.want || e == api.OK != (c.want > 0) || e != api.OK && e != api.ErrNone {
			t.Error(i, v, e)
		}
		if is, e := convoy.Holds(x, level(40, 60), c.want+1); is || e != api.OK {
			t.Error(i, is, e)
		}
	}
}

func TestHoldsErrors(t *testing.T) {
	c := lead(2)
	for i, x := range []struct {
		cell ice.Cell
		v    int
		want api.Errno
	}{
		{level(40, 60), -1, api.ErrRange},
		{level(40, 60), 251, api.ErrRange},
		{level(40, 60), 0, api.OK},
		{level(40, 60), 9, api.OK},
		{level(40, 60), 250, api.OK},
		{level(60, 40), 100, api.ErrIce},
		{level(0, 401), 251, api.ErrIce},
	} {
		if is, e := convoy.Holds(c, x.cell, x.v); is || e != x.want {
			t.Error(i, is, e)
		}
	}
}

func TestSpeedsOfAnyConvoy(t *testing.T) {
	r := random()
	none, several := 0, 0
	for range 600 {
		c, cell := anyConvoy(r, 6), anyCell(r)
		speeds := speedsOf(c, cell)
		for range 10 {
			v := r.IntN(251)
			if is, e := convoy.Holds(c, cell, v); is != slices.Contains(speeds, v) || e != api.OK {
				t.Fatal(c, cell, v, is, e)
			}
		}
		var want []api.Span
		for i, v := range speeds {
			if i > 0 && speeds[i-1] == v-1 {
				want[len(want)-1].Hi = v
			} else {
				want = append(want, sure(v))
			}
		}
		if l, e := convoy.Speeds(c, cell); !slices.Equal(l, want) || e != api.OK {
			t.Fatal(c, cell, l, want, e)
		}
		if v, e := convoy.Fastest(c, cell); v != fastestOf(c, cell) || e == api.OK != (len(want) > 0) {
			t.Fatal(c, cell, v, e)
		}
		switch len(want) {
		case 0:
			none++
		case 1:
		default:
			several++
		}
	}
	if none < 20 || several < 20 {
		t.Error("too few of a kind", none, several)
	}
}
