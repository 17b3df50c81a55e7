package route_test

import (
	"slices"
	"testing"

	"polynya/api"
	"polynya/route"
)

// P4.2: routes that are accepted.

// later is a leg to the same cell at the same speed that departs some ticks later.
func later(l route.Leg, ticks int) route.Leg {
	l.Depart, l.Arrive = l.Depart+ticks, l.Arrive+ticks
	return l
}

func TestAccept(t *testing.T) {
	for i, c := range []struct {
		change func(p *route.Plan)
		l      []route.Leg
		want   int
	}{
		{func(p *route.Plan) {}, twoLegs(), 6},
		// Waits, slower legs, and the end.
		{func(p *route.Plan) {}, []route.Leg{{1, 1, 150, 5}, {2, 6, 160, 9}}, 9},
		{func(p *route.Plan) {}, []route.Leg{{1, 6, 160, 9}, {2, 9, 160, 12}}, 12},
		{func(p *route.Plan) {}, []route.Leg{{1, 0, 160, 3}, {2, 9, 160, 12}}, 12},
		{func(p *route.Plan) {}, []route.Leg{{1, 0, 120, 4}, {2, 4, 60, 12}}, 12},
		// Legs back and forth, and through To.
		{func(p *route.Plan) {}, []route.Leg{{1, 0, 160, 3}, {0, 3, 160, 6}, {1, 6, 160, 9}, {2, 9, 160, 12}}, 12},
		{func(p *route.Plan) { p.To = 1 }, []route.Leg{{1, 0, 160, 3}, {2, 3, 160, 6}, {1, 6, 160, 9}}, 9},
		{func(p *route.Plan) { p.To = 0 }, []route.Leg{{1, 0, 160, 3}, {0, 3, 160, 6}}, 6},
		{func(p *route.Plan) { p.To = 0 }, nil, 0},
		// A ship need not wait where she departs as she arrives, nor at the beginning.
		{func(p *route.Plan) { put(*p, closed(), 0) }, twoLegs(), 6},
		{func(p *route.Plan) { put(*p, heavy(), 1, 1) }, []route.Leg{{1, 3, 160, 6}, {2, 6, 160, 9}}, 9},
		{func(p *route.Plan) { put(*p, heavy(), 1, 0) }, []route.Leg{{1, 6, 160, 9}, {2, 9, 160, 12}}, 12},
		// Where she has arrived at last, she may be beset afterwards.
		{func(p *route.Plan) { put(*p, heavy(), 2, 1) }, twoLegs(), 6},
		// A leg that is under way while the chart changes.
		{func(p *route.Plan) { put(*p, level(50, 50), 2, 1) }, []route.Leg{{1, 0, 160, 3}, {2, 4, 135, 8}}, 8},
		{func(p *route.Plan) { put(*p, level(50, 50), 2, 0) }, []route.Leg{{1, 0, 160, 3}, {2, 5, 135, 9}}, 9},
		{func(p *route.Plan) { p.Channel[2] = true; put(*p, level(50, 50), 2) }, []route.Leg{{1, 0, 160, 3}, {2, 4, 155, 8}}, 8},
	} {
		if n, e := route.Accept(changed(c.change), c.l); n != c.want || e != api.OK {
			t.Error(i, n, e)
		}
	}
}

func TestRoutesThatAreNotAccepted(t *testing.T) {
	one := func(l route.Leg) []route.Leg { return []route.Leg{l, twoLegs()[1]} }
	two := func(l route.Leg) []route.Leg { return []route.Leg{twoLegs()[0], l} }
	for i, c := range []struct {
		change func(p *route.Plan)
		l      []route.Leg
		want   api.Errno
	}{
		// To is no neighbour: the cell itself, one beyond it, none, land.
		{func(p *route.Plan) {}, one(route.Leg{0, 0, 160, 3}), api.ErrRoute},
		{func(p *route.Plan) {}, one(route.Leg{2, 0, 160, 3}), api.ErrRoute},
		{func(p *route.Plan) {}, one(route.Leg{-1, 0, 160, 3}), api.ErrRoute},
		{func(p *route.Plan) {}, two(route.Leg{3, 3, 160, 6}), api.ErrRoute},
		{func(p *route.Plan) {}, one(route.Leg{1<<63 - 1, 0, 160, 3}), api.ErrRoute},
		{func(p *route.Plan) { p.Basin.Land[1] = true }, twoLegs(), api.ErrRoute},
		// Depart.
		{func(p *route.Plan) {}, one(later(twoLegs()[0], -1)), api.ErrRoute},
		{func(p *route.Plan) {}, two(later(twoLegs()[1], -1)), api.ErrRoute},
		{func(p *route.Plan) {}, one(route.Leg{1, -1 << 63, 160, -1<<63 + 3}), api.ErrRoute},
		// Speed: 9 and 251 would arrive then.
		{func(p *route.Plan) {}, one(route.Leg{1, 0, 9, 54}), api.ErrRoute},
		{func(p *route.Plan) {}, one(route.Leg{1, 0, 10, 48}), api.ErrTime},
		{func(p *route.Plan) {}, one(route.Leg{1, 0, 250, 2}), api.ErrBlocked},
		{func(p *route.Plan) {}, one(route.Leg{1, 0, 251, 2}), api.ErrRoute},
		{func(p *route.Plan) {}, one(route.Leg{1, 0, 0, 3}), api.ErrRoute},
		{func(p *route.Plan) {}, one(route.Leg{1, 0, -160, 3}), api.ErrRoute},
		{func(p *route.Plan) {}, one(route.Leg{1, 0, 1 << 62, 1}), api.ErrRoute},
		// Arrive: also where the sum of Depart and the ticks would not fit.
		{func(p *route.Plan) {}, one(route.Leg{1, 0, 160, 2}), api.ErrRoute},
		{func(p *route.Plan) {}, one(route.Leg{1, 0, 160, 4}), api.ErrRoute},
		{func(p *route.Plan) {}, one(route.Leg{1, 0, 160, 0}), api.ErrRoute},
		{func(p *route.Plan) {}, one(route.Leg{1, 0, 160, -3}), api.ErrRoute},
		{func(p *route.Plan) {}, one(route.Leg{1, 1<<63 - 1, 160, -1<<63 + 2}), api.ErrRoute},
		{func(p *route.Plan) {}, one(route.Leg{1, 1<<63 - 4, 160, 1<<63 - 1}), api.ErrTime},
		// Behind the end.
		{func(p *route.Plan) {}, two(route.Leg{2, 9, 160, 12}), api.OK},
		{func(p *route.Plan) {}, two(route.Leg{2, 10, 160, 13}), api.ErrTime},
		{func(p *route.Plan) {}, two(route.Leg{2, 12, 160, 15}), api.ErrTime},
		{func(p *route.Plan) {}, two(route.Leg{2, 50, 160, 53}), api.ErrTime},
		// Waits that are not allowed: at the beginning, on the way, in one tick only.
		{func(p *route.Plan) { put(*p, heavy(), 0) }, []route.Leg{{1, 1, 160, 4}, {2, 4, 160, 7}}, api.ErrBlocked},
		{func(p *route.Plan) { put(*p, heavy(), 0, 0) }, []route.Leg{{1, 6, 160, 9}, {2, 9, 160, 12}}, api.ErrBlocked},
		{func(p *route.Plan) { put(*p, heavy(), 0, 1) }, []route.Leg{{1, 6, 160, 9}, {2, 9, 160, 12}}, api.OK},
		{func(p *route.Plan) { put(*p, heavy(), 0, 1) }, []route.Leg{{1, 7, 160, 10}}, api.ErrBlocked},
		{func(p *route.Plan) { put(*p, heavy(), 1, 1) }, two(route.Leg{2, 6, 160, 9}), api.OK},
		{func(p *route.Plan) { put(*p, heavy(), 1, 1) }, two(route.Leg{2, 7, 160, 10}), api.ErrBlocked},
		// Legs that are not allowed: in ice that may beset her, too fast, in their first and in their last tick.
		{func(p *route.Plan) { put(*p, heavy(), 1, 0) }, twoLegs(), api.ErrBlocked},
		{func(p *route.Plan) {}, one(route.Leg{1, 0, 161, 3}), api.ErrBlocked},
		{func(p *route.Plan) { put(*p, level(50, 50), 1) }, twoLegs(), api.ErrBlocked},
		{func(p *route.Plan) { put(*p, level(50, 50), 1) }, []route.Leg{{1, 0, 135, 4}, {2, 4, 160, 7}}, api.OK},
		{func(p *route.Plan) { put(*p, level(50, 50), 1) }, []route.Leg{{1, 0, 136, 4}, {2, 4, 160, 7}}, api.ErrBlocked},
		{func(p *route.Plan) { put(*p, heavy(), 2, 1) }, two(route.Leg{2, 4, 160, 7}), api.ErrBlocked},
		{func(p *route.Plan) { put(*p, heavy(), 2, 0) }, two(route.Leg{2, 5, 160, 8}), api.ErrBlocked},
		{func(p *route.Plan) { put(*p, heavy(), 2, 0) }, two(route.Leg{2, 6, 160, 9}), api.OK},
		{func(p *route.Plan) { p.Channel[2] = true; put(*p, level(50, 50), 2) }, two(route.Leg{2, 4, 156, 8}), api.ErrBlocked},
		// Not in To.
		{func(p *route.Plan) {}, nil, api.ErrRoute},
		{func(p *route.Plan) {}, twoLegs()[:1], api.ErrRoute},
		{func(p *route.Plan) { p.To = 1 }, twoLegs(), api.ErrRoute},
		{func(p *route.Plan) { p.To = 0 }, twoLegs(), api.ErrRoute},
	} {
		p := changed(c.change)
		if n, e := route.Accept(p, c.l); e != c.want || n != 0 && e != api.OK {
			t.Error(i, n, e)
		}
		if n, e := route.Margin(p, c.l); e != c.want || n != 0 && e != api.OK {
			t.Error(i, n, e)
		}
	}
}

// R1: of the errors of a leg the first one that is named, of the legs the first one with an error.
func TestOrderOfErrorsOfRoutes(t *testing.T) {
	blocked, late, wrong := route.Leg{1, 0, 170, 3}, route.Leg{1, 10, 160, 13}, route.Leg{1, 0, 160, 9}
	for i, c := range []struct {
		l    []route.Leg
		want api.Errno
	}{
		{[]route.Leg{blocked, wrong}, api.ErrBlocked},
		{[]route.Leg{blocked, late}, api.ErrBlocked},
		{[]route.Leg{late, wrong}, api.ErrTime},
		{[]route.Leg{late, blocked}, api.ErrTime},
		{[]route.Leg{wrong, blocked}, api.ErrRoute},
		{[]route.Leg{wrong, late}, api.ErrRoute},
		// One leg with several errors.
		{[]route.Leg{{1, 10, 170, 13}}, api.ErrTime},
		{[]route.Leg{{0, 10, 170, 13}}, api.ErrRoute},
		{[]route.Leg{{1, 10, 170, 14}}, api.ErrRoute},
		// That a route ends elsewhere comes last.
		{[]route.Leg{blocked}, api.ErrBlocked},
		{[]route.Leg{late}, api.ErrTime},
		{slices.Repeat([]route.Leg{wrong}, 300), api.ErrRoute},
		{slices.Repeat([]route.Leg{blocked}, 300), api.ErrBlocked},
		{slices.Repeat([]route.Leg{blocked}, 301), api.ErrMany},
		{slices.Repeat([]route.Leg{wrong}, 301), api.ErrMany},
	} {
		for _, f := range []func(route.Plan, []route.Leg) (int, api.Errno){route.Accept, route.Margin} {
			if n, e := f(plan(2, "..."), c.l); n != 0 || e != c.want {
				t.Error(i, n, e)
			}
		}
	}
	// She may be beset where she waits, too, but this leg arrives behind the end.
	p := plan(2, "...")
	put(p, heavy(), 0)
	if n, e := route.Accept(p, []route.Leg{late}); n != 0 || e != api.ErrTime {
		t.Error(n, e)
	}
}

// A leg takes a tick at least, so that no route has more legs than there are ticks.
func TestMostLegs(t *testing.T) {
	p := plan(48, "<.>")
	p.Size, p.To = 1, 0
	var l []route.Leg
	for i := range 288 {
		l = append(l, route.Leg{To: 1 - i%2, Depart: i, Speed: 10 + i%150, Arrive: i + 1})
	}
	if n, e := route.Accept(p, l); n != 288 || e != api.OK {
		t.Error(n, e)
	}
	if n, e := route.Margin(p, l); n != 160-159 || e != api.OK {
		t.Error(n, e)
	}
	l = append(l, later(l[0], 288))
	if n, e := route.Accept(p, l); n != 0 || e != api.ErrTime {
		t.Error(n, e)
	}
}

func TestMargin(t *testing.T) {
	p := plan(2, "...")
	put(p, level(50, 50), 2, 1)
	for i, c := range []struct {
		l    []route.Leg
		want int
	}{
		{twoLegs(), 0},
		{[]route.Leg{{1, 0, 150, 4}, {2, 6, 135, 10}}, 0},
		{[]route.Leg{{1, 0, 150, 4}, {2, 6, 120, 10}}, 10},
		{[]route.Leg{{1, 0, 140, 4}, {2, 6, 120, 10}}, 15},
		// Of the ticks of a leg the one with the least safe speed counts, the one in which it arrives not.
		{[]route.Leg{{1, 0, 100, 5}, {2, 5, 120, 9}}, 15},
		{[]route.Leg{{1, 0, 120, 4}, {2, 4, 130, 8}}, 5},
		{[]route.Leg{{1, 0, 160, 3}, {2, 3, 160, 6}}, 0},
		// The ice in which she waits does not.
		{[]route.Leg{{1, 0, 130, 4}, {2, 4, 100, 9}}, 30},
	} {
		if n, e := route.Margin(p, c.l); n != c.want || e != api.OK {
			t.Error(i, n, e)
		}
	}
	p.To = 0
	for _, l := range [][]route.Leg{nil, {}} {
		if n, e := route.Margin(p, l); n != 250 || e != api.OK {
			t.Error(n, e)
		}
	}
	// The least margin of all is that of a fast ship at the least speed.
	p.To, p.Ship, p.Size = 1, upTo(250), 1
	if n, e := route.Margin(p, []route.Leg{{1, 0, 10, 1}}); n != 240 || e != api.OK {
		t.Error(n, e)
	}
}

// Routes are accepted, or not, as the words of the document say.
func TestAnyRoutes(t *testing.T) {
	r := random()
	var seen [100]int
	for range 4000 {
		p := anyPlan(r, 3, 2, 3)
		m := modelOf(p)
		var l []route.Leg
		cell, tick := p.From, 0
		for range r.IntN(4) {
			from := min(tick+r.IntN(2)*r.IntN(5), m.end)
			if legs := m.options(cell, from); len(legs) > 0 && r.IntN(10) > 0 {
				leg := legs[r.IntN(len(legs))]
				l = append(l, leg)
				cell, tick = leg.To, leg.Arrive
			}
		}
		if len(l) > 0 && r.IntN(3) == 0 {
			i := r.IntN(len(l))
			n := []*int{&l[i].To, &l[i].Depart, &l[i].Speed, &l[i].Arrive}[r.IntN(4)]
			*n += r.IntN(3) - 1
		}
		if r.IntN(2) == 0 {
			p.To, m.To = cell, cell
		}
		want, margin := m.errorOf(l), 250
		for _, leg := range l {
			for t := leg.Depart; want == api.OK && t < leg.Arrive; t++ {
				margin = min(margin, m.safe[t/6][leg.To]-leg.Speed)
			}
		}
		seen[want]++
		arrive := arrives(l)
		if want != api.OK {
			arrive, margin = 0, 0
		}
		if n, e := route.Accept(p, l); n != arrive || e != want {
			t.Fatal(p, l, n, e, want)
		}
		if n, e := route.Margin(p, l); n != margin || e != want {
			t.Fatal(p, l, n, e, want)
		}
	}
	if seen[api.OK] < 500 || seen[api.ErrRoute] < 500 || seen[api.ErrBlocked] < 100 {
		t.Error("too few of a kind", seen)
	}
}

// errorOf is the error of a route that has not too many legs.
func (m model) errorOf(l []route.Leg) api.Errno {
	cell, tick := m.From, 0
	for _, leg := range l {
		if leg.To < 0 || leg.To >= len(m.Channel) || !m.areNeighbours(cell, leg.To) || leg.Depart < tick || leg.Speed < 10 || leg.Speed > 250 || leg.Arrive != leg.Depart+m.ticks(leg.Speed) {
			return api.ErrRoute
		}
		if leg.Arrive > m.end {
			return api.ErrTime
		}
		if !m.waits(cell, tick, leg.Depart) || !m.allowed(leg) {
			return api.ErrBlocked
		}
		cell, tick = leg.To, leg.Arrive
	}
	if cell != m.To {
		return api.ErrRoute
	}
	return api.OK
}
