package convoy_test

import (
	"testing"

	"polynya/api"
	"polynya/convoy"
	"polynya/hull"
)

// P5.1: members.

// places are where a member can stand in the convoy of the examples.
func places(c *convoy.Convoy) []*convoy.Member {
	return []*convoy.Member{&c.Breaker, &c.Ships[0], &c.Ships[1]}
}

// What is allowed of a member, and what is not, wherever she stands.
func TestCheckMembers(t *testing.T) {
	for i, c := range []struct {
		change func(m *convoy.Member)
		want   api.Errno
	}{
		{func(m *convoy.Member) {}, api.OK},
		{func(m *convoy.Member) { m.Ship.Class = 0 }, api.ErrClass},
		{func(m *convoy.Member) { m.Ship.Class, m.Length = 7, 9 }, api.ErrClass},
		{func(m *convoy.Member) { m.Ship.Tonnes = 9 }, api.ErrHull},
		{func(m *convoy.Member) { m.Ship.Thrust, m.Stop = nil, nil }, api.ErrHull},
		{func(m *convoy.Member) { m.Length = 10 }, api.OK},
		{func(m *convoy.Member) { m.Length = 500 }, api.OK},
		{func(m *convoy.Member) { m.Length = 9 }, api.ErrConvoy},
		{func(m *convoy.Member) { m.Length = 501 }, api.ErrConvoy},
		{func(m *convoy.Member) { m.Delay = 0 }, api.OK},
		{func(m *convoy.Member) { m.Delay = 600 }, api.OK},
		{func(m *convoy.Member) { m.Delay = -1 }, api.ErrConvoy},
		{func(m *convoy.Member) { m.Delay = 601 }, api.ErrConvoy},
		{func(m *convoy.Member) { m.Short = 0 }, api.OK},
		{func(m *convoy.Member) { m.Short = 20000 }, api.OK},
		{func(m *convoy.Member) { m.Short = -1 }, api.ErrConvoy},
		{func(m *convoy.Member) { m.Short = 20001 }, api.ErrConvoy},
		// Stop is a curve.
		{func(m *convoy.Member) { m.Stop = nil }, api.ErrConvoy},
		{func(m *convoy.Member) { m.Stop = curve(0, 0) }, api.ErrConvoy},
		{func(m *convoy.Member) { m.Stop = curve(0, 0, 30, 1, 60, 2, 90, 3, 120, 4, 150, 5, 180, 6, 210, 7) }, api.OK},
		{func(m *convoy.Member) {
			m.Stop = curve(0, 0, 30, 1, 60, 2, 90, 3, 120, 4, 150, 5, 180, 6, 210, 7, 240, 8)
		}, api.ErrConvoy},
		{func(m *convoy.Member) { m.Stop = curve(1, 0, 200, 1000) }, api.ErrConvoy},
		{func(m *convoy.Member) { m.Stop = curve(-1, 0, 200, 1000) }, api.ErrConvoy},
		{func(m *convoy.Member) { m.Stop = curve(0, 0, 100, 3, 100, 3, 200, 1000) }, api.ErrConvoy},
		{func(m *convoy.Member) { m.Stop = curve(0, 0, 300, 3, 250, 4) }, api.ErrConvoy},
		{func(m *convoy.Member) { m.Stop = curve(0, 0, 400, 20000) }, api.OK},
		{func(m *convoy.Member) { m.Stop = curve(0, 0, 401, 20000) }, api.ErrConvoy},
		{func(m *convoy.Member) { m.Stop = curve(0, 0, 400, 20001) }, api.ErrConvoy},
		{func(m *convoy.Member) { m.Stop = curve(0, -1, 400, 20000) }, api.ErrConvoy},
		// Its first Y is 0, and its Y never decreases.
		{func(m *convoy.Member) { m.Stop = curve(0, 1, 200, 1000) }, api.ErrConvoy},
		{func(m *convoy.Member) { m.Stop = curve(0, 0, 100, 0, 200, 0) }, api.OK},
		{func(m *convoy.Member) { m.Stop = curve(0, 0, 100, 7, 200, 7) }, api.OK},
		{func(m *convoy.Member) { m.Stop = curve(0, 0, 100, 7, 200, 6) }, api.ErrConvoy},
		{func(m *convoy.Member) { m.Stop = curve(0, 0, 100, 7, 150, 6, 200, 8) }, api.ErrConvoy},
		// Its last X is at least the top speed of her ship.
		{func(m *convoy.Member) { m.Stop = curve(0, 0, 199, 1000) }, api.ErrConvoy},
		{func(m *convoy.Member) { m.Stop = curve(0, 0, 201, 1000) }, api.OK},
		{func(m *convoy.Member) { m.Stop = curve(0, 0, 150, 1000); m.Ship.Thrust[2].X = 150 }, api.OK},
		{func(m *convoy.Member) { m.Stop = curve(0, 0, 150, 1000); m.Ship.Thrust[2].X = 151 }, api.ErrConvoy},
	} {
		for place := range 3 {
			x := lead(2)
			c.change(places(&x)[place])
			if e := convoy.Check(x); e != c.want {
				t.Error(i, place, e)
			}
		}
		if h, e := convoy.Halt(like(c.change), 0); h != (api.Span{}) || e != c.want {
			t.Error(i, h, e)
		}
	}
}

func TestCheckNumberOfShips(t *testing.T) {
	for ships := range 7 {
		if e := convoy.Check(lead(ships)); e != api.OK {
			t.Error(ships, e)
		}
	}
	for _, ships := range []int{7, 8, 100} {
		if e := convoy.Check(lead(ships)); e != api.ErrMany {
			t.Error(ships, e)
		}
	}
	// All of six are examined.
	c := lead(6)
	c.Ships[5].Delay = 601
	if e := convoy.Check(c); e != api.ErrConvoy {
		t.Error(e)
	}
}

func TestCheckClearAndClose(t *testing.T) {
	for i, c := range []struct {
		clear int
		close [4]int
		want  api.Errno
	}{
		{0, [4]int{}, api.OK},
		{2000, [4]int{1440, 1440, 1440, 1440}, api.OK},
		{-1, [4]int{}, api.ErrSpace},
		{2001, [4]int{}, api.ErrSpace},
		{0, [4]int{1441, 0, 0, 0}, api.ErrSpace},
		{0, [4]int{1441, 1441, 0, 0}, api.ErrSpace},
		{0, [4]int{1441, 1441, 1441, 1441}, api.ErrSpace},
		{0, [4]int{9, 9, 9, -1}, api.ErrSpace},
		{0, [4]int{9, 9, -1, -1}, api.ErrSpace},
		{0, [4]int{9, -1, -1, -1}, api.ErrSpace},
		{0, [4]int{-1, -1, -1, -1}, api.ErrSpace},
		{0, [4]int{9, 8, 7, 6}, api.OK},
		{0, [4]int{8, 9, 7, 6}, api.ErrSpace},
		{0, [4]int{9, 7, 8, 6}, api.ErrSpace},
		{0, [4]int{9, 8, 6, 7}, api.ErrSpace},
		{0, [4]int{9, 0, 0, 1}, api.ErrSpace},
		{0, [4]int{9, 9, 0, 0}, api.OK},
	} {
		if e := convoy.Check(changed(func(x *convoy.Convoy) { x.Clear, x.Close = c.clear, c.close })); e != c.want {
			t.Error(i, e)
		}
	}
}

// The first member that is wrong decides, and what is wrong with her ship comes first; the number of ships comes before, Clear and Close after.
func TestCheckOrderOfErrors(t *testing.T) {
	for i, c := range []struct {
		change func(c *convoy.Convoy)
		want   api.Errno
	}{
		{func(c *convoy.Convoy) { c.Breaker.Ship.Class, c.Ships = 0, make([]convoy.Member, 7) }, api.ErrMany},
		{func(c *convoy.Convoy) { c.Breaker.Length, c.Ships[0].Ship.Class = 9, 0 }, api.ErrConvoy},
		{func(c *convoy.Convoy) { c.Breaker.Ship.Class, c.Ships[0].Length = 0, 9 }, api.ErrClass},
		{func(c *convoy.Convoy) { c.Ships[0].Ship.Power, c.Ships[1].Ship.Class = 99, 0 }, api.ErrHull},
		{func(c *convoy.Convoy) { c.Ships[0].Length, c.Ships[1].Ship.Power = 9, 99 }, api.ErrConvoy},
		{func(c *convoy.Convoy) { c.Ships[1].Length, c.Clear = 9, -1 }, api.ErrConvoy},
		{func(c *convoy.Convoy) { c.Ships[1].Ship.Class, c.Close[3] = 7, -1 }, api.ErrClass},
	} {
		if e := convoy.Check(changed(c.change)); e != c.want {
			t.Error(i, e)
		}
	}
}

func TestWay(t *testing.T) {
	for i, c := range []struct {
		v, seconds, down, up int
		want                 api.Errno
	}{
		{100, 60, 308, 309, api.OK}, // 308.67
		{0, 0, 0, 0, api.OK},
		{0, 100000, 0, 0, api.OK},
		{250, 0, 0, 0, api.OK},
		{250, 100000, 1286111, 1286112, api.OK},
		{1, 1, 0, 1, api.OK},
		// Whole ways: 9000 divides the speed times the seconds.
		{250, 36, 463, 463, api.OK},
		{250, 72, 926, 926, api.OK},
		{1, 9000, 463, 463, api.OK},
		{90, 100000, 463000, 463000, api.OK},
		// One second less, and one more.
		{250, 35, 450, 451, api.OK},
		{250, 37, 475, 476, api.OK},
		{1, 8999, 462, 463, api.OK},
		{1, 9001, 463, 464, api.OK},
		{251, 60, 0, 0, api.ErrRange},
		{-1, 60, 0, 0, api.ErrRange},
		{100, 100001, 0, 0, api.ErrRange},
		{100, -1, 0, 0, api.ErrRange},
		{251, -1, 0, 0, api.ErrRange},
	} {
		if down, up, e := convoy.Way(c.v, c.seconds); down != c.down || up != c.up || e != c.want {
			t.Error(i, down, up, e)
		}
	}
}

func TestAllWays(t *testing.T) {
	whole := 0
	for v := 0; v <= 250; v += 5 {
		for seconds := 0; seconds <= 720; seconds += 9 {
			down, up, e := convoy.Way(v, seconds)
			if a, b := wayOf(v, seconds); down != a || up != b || e != api.OK {
				t.Fatal(v, seconds, down, up, e)
			}
			if v > 0 && seconds > 0 && down == up {
				whole++
			}
		}
	}
	if whole < 50 {
		t.Error("too few whole ways", whole)
	}
}

func TestHalt(t *testing.T) {
	for i, c := range []struct {
		change func(m *convoy.Member)
		v      int
		want   api.Span
	}{
		// The chapter's example.
		{func(m *convoy.Member) {}, 100, span(100, 155+500)},
		{func(m *convoy.Member) {}, 10, span(50, 16+50)},
		{func(m *convoy.Member) {}, 0, span(0, 0)},
		// Behind the last point of Stop.
		{func(m *convoy.Member) {}, 250, span(100, 386+1000)},
		// Short is less than the value of Stop, equal, and more.
		{func(m *convoy.Member) { m.Short = 499 }, 100, span(499, 655)},
		{func(m *convoy.Member) { m.Short = 500 }, 100, span(500, 655)},
		{func(m *convoy.Member) { m.Short = 501 }, 100, span(500, 655)},
		{func(m *convoy.Member) { m.Short = 0 }, 100, span(0, 655)},
		// A value of 500.5: down for the Near, up for the Far.
		{func(m *convoy.Member) { m.Stop, m.Short = curve(0, 0, 200, 1001), 20000 }, 100, span(500, 155+501)},
		// A way and a value that are rounded up each by itself: 15.43 and 50.05.
		{func(m *convoy.Member) { m.Stop = curve(0, 0, 200, 1001) }, 10, span(50, 16+51)},
		// A whole way.
		{func(m *convoy.Member) { m.Delay = 36 }, 250, span(100, 463+1000)},
		{func(m *convoy.Member) { m.Delay = 0 }, 100, span(100, 500)},
		{func(m *convoy.Member) { m.Delay = 600 }, 250, span(100, 7717+1000)},
		// No way at all.
		{func(m *convoy.Member) { m.Delay, m.Stop = 0, curve(0, 0, 200, 0) }, 250, span(0, 0)},
	} {
		if h, e := convoy.Halt(like(c.change), c.v); h != c.want || e != api.OK {
			t.Error(i, h, e)
		}
	}
	for _, v := range []int{-1, 251} {
		if h, e := convoy.Halt(member(), v); h != (api.Span{}) || e != api.ErrRange {
			t.Error(v, h, e)
		}
	}
}

func TestHaltOfAnyMember(t *testing.T) {
	r := random()
	for range 3000 {
		m, v := anyMember(r), r.IntN(251)
		if h, e := convoy.Halt(m, v); h != haltOf(m, v) || e != api.OK {
			t.Fatal(m, v, h, haltOf(m, v), e)
		}
	}
}

// The ship of a member may go at the top speed of all ships, to which her Stop reaches.
func TestTopSpeed(t *testing.T) {
	for i, x := range []int{249, 250, 251, 400} {
		m := like(func(m *convoy.Member) {
			m.Ship.Thrust = []hull.Point{{X: 0, Y: 9}, {X: 250, Y: 9}}
			m.Stop = curve(0, 0, x, 100)
		})
		want := api.OK
		if x < 250 {
			want = api.ErrConvoy
		}
		if _, e := convoy.Halt(m, 250); e != want {
			t.Error(i, e)
		}
	}
}
