package convoy_test

import (
	"reflect"
	"slices"
	"testing"

	"polynya/api"
	"polynya/convoy"
	"polynya/ice"
)

// P5.4: orders, who joins and leaves, and divisions.

func TestOrdered(t *testing.T) {
	for ships := range 7 {
		for _, order := range allOrders(ships) {
			c := numbered(ships)
			x, e := convoy.Ordered(c, order)
			if !reflect.DeepEqual(x, inOrder(c, order)) || e != api.OK {
				t.Fatal(order, lengths(x), e)
			}
		}
	}
	for i, c := range []struct {
		ships int
		order []int
	}{
		{3, nil}, {3, []int{0, 1}}, {3, []int{2, 1, 0, 0}}, {3, []int{0, 1, 2, 3}},
		// One twice, and another one not at all.
		{3, []int{0, 1, 1}}, {3, []int{2, 0, 2}}, {3, []int{0, 0, 0}}, {2, []int{1, 1}},
		// There is no such ship.
		{3, []int{0, 1, 3}}, {3, []int{-1, 0, 1}}, {3, []int{1, 2, 3}}, {3, []int{0, 2, 1 << 62}}, {3, []int{0, 2, -1 << 63}},
		{0, []int{0}}, {1, []int{1}}, {1, nil},
	} {
		if x, e := convoy.Ordered(numbered(c.ships), c.order); !reflect.DeepEqual(x, convoy.Convoy{}) || e != api.ErrArg {
			t.Error(i, x, e)
		}
	}
}

// twoSteep is a convoy of two ships who need much more room from the speed 60 on than at 50, but not the first one behind the second one, whose Near is as great.
func twoSteep() convoy.Convoy {
	c := steep()
	second := c.Ships[0]
	c.Ships[0].Short, second.Short = 0, 20000
	c.Ships = append(c.Ships, second)
	return c
}

// crossing is a convoy of two ships whose order has the lesser tail at 50, and only in this order it passes there; at 130 this is so of the other order.
func crossing() convoy.Convoy {
	first := like(func(m *convoy.Member) { m.Stop, m.Delay, m.Short = curve(0, 0, 5, 100, 200, 100), 150, 20000 })
	second := like(func(m *convoy.Member) {
		m.Stop, m.Delay, m.Short = curve(0, 0, 60, 0, 100, 1000, 200, 1000), 300, 20000
	})
	return convoy.Convoy{
		Breaker: like(func(m *convoy.Member) { m.Short = 0 }), Ships: []convoy.Member{first, second},
		Clear: 50, Close: [4]int{10, 10, 10, 10},
	}
}

func TestBest(t *testing.T) {
	// The tail is least if the one with the Short 0 is the last one, and the one with 500 just before her.
	short := lead(3)
	short.Ships[0].Short, short.Ships[1].Length, short.Ships[2].Short = 0, 10, 500
	// Somebody must be behind 2, and who this is, and where, does not matter: the first order of these.
	alike := lead(3)
	alike.Ships[2].Short = 500
	// In the order that is given no speed holds.
	narrow := lead(2)
	narrow.Ships[1].Short = 500
	narrow.Close = [4]int{4, 4, 4, 4}
	for i, c := range []struct {
		c       convoy.Convoy
		cell    ice.Cell
		fastest int // in the order that is given
		want    []int
		v       int
	}{
		{short, level(40, 60), 130, []int{1, 2, 0}, 130},
		{alike, level(40, 60), 130, []int{0, 2, 1}, 130},
		{lead(6), level(40, 60), 130, []int{0, 1, 2, 3, 4, 5}, 130},
		{lead(1), level(40, 60), 130, []int{0}, 130},
		{lead(0), level(40, 60), 130, nil, 130},
		{lead(0), pressed(0, 3), 33, nil, 33},
		{narrow, level(40, 60), 0, []int{1, 0}, 130},
		{steep(), level(40, 60), 130, []int{0}, 130},
		{twoSteep(), level(40, 60), 53, []int{1, 0}, 130},
		{crossing(), level(40, 60), 67, []int{1, 0}, 130},
		// At the least speed.
		{roomy(46, 46), level(0, 0), 10, []int{0, 1}, 10},
	} {
		if v, _ := convoy.Fastest(c.c, c.cell); v != c.fastest {
			t.Error(i, v)
		}
		if l, v, e := convoy.Best(c.c, c.cell); !slices.Equal(l, c.want) || v != c.v || e != api.OK {
			t.Error(i, l, v, e)
		}
	}
	for i, c := range []struct {
		c    convoy.Convoy
		cell ice.Cell
	}{{lead(2), level(300, 300)}, {lead(0), level(300, 300)}, {lead(2), pressed(0, 3)}, {lead(6), pressed(2, 2)}} {
		if l, v, e := convoy.Best(c.c, c.cell); l != nil || v != 0 || e != api.ErrNone {
			t.Error(i, l, v, e)
		}
	}
}

// bestOf is what Best returns, worked out from the words of the document: all orders are tried.
func bestOf(c convoy.Convoy, cell ice.Cell) ([]int, int) {
	var best []int
	speed, least := 0, 0
	for _, order := range allOrders(len(c.Ships)) {
		x := inOrder(c, order)
		v := fastestOf(x, cell)
		if tail := tailOf(x, v); v > speed || v > 0 && v == speed && tail < least {
			best, speed, least = order, v, tail
		}
	}
	return best, speed
}

func TestBestOfAnyConvoy(t *testing.T) {
	r := random()
	none, other, faster := 0, 0, 0
	for range 1500 {
		c, cell := anyConvoy(r, 4), anyCell(r)
		for i := range c.Close {
			c.Close[i] /= 2
		}
		order, speed := bestOf(c, cell)
		l, v, e := convoy.Best(c, cell)
		if !slices.Equal(l, order) || v != speed || e == api.OK != (speed > 0) || e != api.OK && e != api.ErrNone {
			t.Fatal(c, cell, l, v, e, order, speed)
		}
		if e != api.OK {
			none++
			continue
		}
		if !slices.IsSorted(l) {
			other++
		}
		if v > fastestOf(c, cell) {
			faster++
		}
	}
	if none < 100 || other < 100 || faster < 20 {
		t.Error("too few of a kind", none, other, faster)
	}
}

func TestJoin(t *testing.T) {
	m := like(func(m *convoy.Member) { m.Length = 77 })
	for ships := range 6 {
		for at := range ships + 1 {
			c := numbered(ships)
			x, e := convoy.Join(c, m, at)
			want := numbered(ships)
			want.Ships = slices.Insert(want.Ships, at, m)
			if !reflect.DeepEqual(x, want) || e != api.OK {
				t.Error(ships, at, lengths(x), e)
			}
		}
	}
	wrong, beset := like(func(m *convoy.Member) { m.Short = -1 }), like(func(m *convoy.Member) { m.Ship.Class = 0 })
	for i, c := range []struct {
		ships int
		m     convoy.Member
		at    int
		want  api.Errno
	}{
		{0, m, -1, api.ErrArg}, {0, m, 1, api.ErrArg},
		{3, m, -1, api.ErrArg}, {3, m, 4, api.ErrArg}, {3, m, 1 << 62, api.ErrArg}, {3, m, -1 << 63, api.ErrArg},
		{6, m, 0, api.ErrMany}, {6, m, 2, api.ErrMany}, {6, m, 6, api.ErrMany},
		// In this order.
		{6, m, -1, api.ErrArg}, {6, m, 7, api.ErrArg},
		{6, wrong, 7, api.ErrConvoy}, {6, beset, 7, api.ErrClass}, {3, wrong, 0, api.ErrConvoy},
		{7, wrong, 7, api.ErrMany},
	} {
		if x, e := convoy.Join(numbered(c.ships), c.m, c.at); !reflect.DeepEqual(x, convoy.Convoy{}) || e != c.want {
			t.Error(i, x, e)
		}
	}
	if _, e := convoy.Join(changed(func(c *convoy.Convoy) { c.Clear = -1 }), wrong, 9); e != api.ErrSpace {
		t.Error(e)
	}
}

func TestLeave(t *testing.T) {
	for ships := range 7 {
		for at := range ships {
			c := numbered(ships)
			x, e := convoy.Leave(c, at)
			want := slices.Delete(lengths(c), at, at+1)
			if !slices.Equal(lengths(x), want) || e != api.OK {
				t.Error(ships, at, lengths(x), e)
			}
			if len(x.Ships) > 0 && !reflect.DeepEqual(x, inOrder(c, slices.Delete([]int{0, 1, 2, 3, 4, 5}[:ships], at, at+1))) {
				t.Error(ships, at, x)
			}
			if !reflect.DeepEqual(x.Breaker, c.Breaker) || x.Clear != c.Clear || x.Close != c.Close {
				t.Error(ships, at, x)
			}
		}
		for _, at := range []int{-1, ships, ships + 1, 1 << 62, -1 << 63} {
			if x, e := convoy.Leave(numbered(ships), at); !reflect.DeepEqual(x, convoy.Convoy{}) || e != api.ErrArg {
				t.Error(ships, at, x, e)
			}
		}
	}
	if _, e := convoy.Leave(lead(7), 9); e != api.ErrMany {
		t.Error(e)
	}
}

// roomy is a convoy whose ships need at the speed 10, the only one of the Breaker, so many metres each; the channel is open for 92.
func roomy(metres ...int) convoy.Convoy {
	flat := func(m *convoy.Member) { m.Stop, m.Delay = curve(0, 0, 200, 0), 0 }
	c := convoy.Convoy{Breaker: like(flat), Close: [4]int{3, 3, 3, 3}}
	c.Breaker.Ship.Thrust = curve(0, 1000, 10, 1000)
	for _, n := range metres {
		m := like(flat)
		m.Length = n
		c.Ships = append(c.Ships, m)
	}
	return c
}

func TestSplit(t *testing.T) {
	for i, c := range []struct {
		c    convoy.Convoy
		cell ice.Cell
		want []int
		e    api.Errno
	}{
		{lead(5), level(40, 60), []int{5}, api.OK},
		{lead(6), level(40, 60), []int{6}, api.OK},
		{lead(5), pressed(0, 1), []int{2, 2, 1}, api.OK},
		{lead(6), pressed(0, 1), []int{2, 2, 2}, api.OK},
		{lead(1), level(40, 60), []int{1}, api.OK},
		// Just what the channel is open for, and one more.
		{roomy(46, 46), level(0, 0), []int{2}, api.OK},
		{roomy(46, 47), level(0, 0), []int{1, 1}, api.OK},
		{roomy(30, 30, 32, 92), level(0, 0), []int{3, 1}, api.OK},
		{roomy(30, 30, 33, 92), level(0, 0), []int{2, 1, 1}, api.OK},
		{roomy(92, 92, 92, 92, 92, 92), level(0, 0), []int{1, 1, 1, 1, 1, 1}, api.OK},
		// The first one has most ships, though 2, 2 would do as well.
		{roomy(30, 30, 30, 30), level(0, 0), []int{3, 1}, api.OK},
		{roomy(10, 10, 70, 10, 10, 70), level(0, 0), []int{3, 3}, api.OK},
		{roomy(10, 10, 70, 10, 10, 73), level(0, 0), []int{3, 2, 1}, api.OK},
		// The ships stay in their order, though others would fit together.
		{roomy(80, 20, 80, 10, 10), level(0, 0), []int{1, 1, 2, 1}, api.OK},
		// One who cannot be led at all.
		{roomy(93), level(0, 0), nil, api.ErrNone},
		{roomy(10, 10, 93, 10), level(0, 0), nil, api.ErrNone},
		{roomy(10, 10, 10, 93), level(0, 0), nil, api.ErrNone},
		{lead(1), pressed(0, 3), nil, api.ErrNone},
		{lead(1), level(300, 300), nil, api.ErrNone},
		// Without ships there is no convoy that must hold.
		{lead(0), level(40, 60), nil, api.OK},
		{lead(0), level(300, 300), nil, api.OK},
	} {
		if l, e := convoy.Split(c.c, c.cell); !slices.Equal(l, c.want) || e != c.e || e != api.OK && l != nil {
			t.Error(i, l, e)
		}
	}
}

// divisions are all ways to divide so many ships, the one whose first convoy has most ships first, and then the second one.
func divisions(ships int) [][]int {
	if ships == 0 {
		return [][]int{{}}
	}
	var l [][]int
	for first := ships; first > 0; first-- {
		for _, rest := range divisions(ships - first) {
			l = append(l, append([]int{first}, rest...))
		}
	}
	return l
}

// pieces are the convoys into which one is divided.
func pieces(c convoy.Convoy, counts []int) []convoy.Convoy {
	var l []convoy.Convoy
	ships := c.Ships
	for _, n := range counts {
		c.Ships, ships = ships[:n], ships[n:]
		l = append(l, c)
	}
	return l
}

func TestSplitOfAnyConvoy(t *testing.T) {
	r := random()
	kinds := [7]int{}
	none := 0
	for range 1500 {
		c, cell := anyConvoy(r, 6), anyCell(r)
		for i := range c.Close {
			c.Close[i] /= 3
		}
		var want []int
		is := false
		for _, way := range divisions(len(c.Ships)) {
			stands := func(x convoy.Convoy) bool { return fastestOf(x, cell) == 0 }
			if is && len(way) >= len(want) || slices.ContainsFunc(pieces(c, way), stands) {
				continue
			}
			want, is = way, true
		}
		l, e := convoy.Split(c, cell)
		if !slices.Equal(l, want) || e == api.OK != is || e != api.OK && e != api.ErrNone {
			t.Fatal(c, cell, l, e, want)
		}
		kinds[len(l)]++
		if e != api.OK {
			none++
		}
	}
	if none < 50 || kinds[1] < 50 || kinds[2] < 20 || kinds[3] < 5 {
		t.Error("too few of a kind", none, kinds)
	}
}

// What Ordered, Join and Leave return is a convoy.
func TestConvoysAreRight(t *testing.T) {
	r := random()
	for range 300 {
		c := anyConvoy(r, 5)
		n := len(c.Ships)
		x, e := convoy.Ordered(c, r.Perm(n))
		y, f := convoy.Join(x, anyMember(r), r.IntN(n+1))
		z, g := convoy.Leave(y, r.IntN(n+1))
		if e != api.OK || f != api.OK || g != api.OK || convoy.Check(x) != api.OK || convoy.Check(y) != api.OK || convoy.Check(z) != api.OK {
			t.Fatal(c, e, f, g)
		}
		if len(x.Ships) != n || len(y.Ships) != n+1 || len(z.Ships) != n {
			t.Fatal(c, x, y, z)
		}
	}
}

// A ship who joins where another one has left takes her place.
func TestLeaveAndJoin(t *testing.T) {
	c := numbered(6)
	for at := range 6 {
		x, e := convoy.Leave(c, at)
		y, f := convoy.Join(x, c.Ships[at], at)
		if !reflect.DeepEqual(y, c) || e != api.OK || f != api.OK {
			t.Error(at, lengths(y), e, f)
		}
	}
}
