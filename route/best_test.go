package route_test

import (
	"slices"
	"testing"

	"polynya/api"
	"polynya/route"
)

// P4.2: the best route. P4.3: what can be hoped for.

// strong is a ship as that of the examples who bears thicker ice: in level ice of 100 her safe speed is 110, in 152 it is 60.
func strong(p *route.Plan) { p.Ship.Class = 6 }

func TestBest(t *testing.T) {
	ring := []string{"<..", ".#.", "..>"}
	for i, c := range []struct {
		p      route.Plan
		change func(p *route.Plan)
		want   []route.Leg
	}{
		// The chapter's examples.
		{plan(2, "..."), func(p *route.Plan) {}, twoLegs()},
		{plan(2, "..."), func(p *route.Plan) { put(*p, heavy(), 1, 0) }, []route.Leg{{1, 6, 160, 9}, {2, 9, 160, 12}}},
		// To is From.
		{plan(2, "..."), func(p *route.Plan) { p.To = 0 }, nil},
		{plan(1, "."), func(p *route.Plan) { put(*p, closed(), 0) }, nil},
		// She need not wait where she departs at once.
		{plan(1, "..."), func(p *route.Plan) { put(*p, closed(), 0) }, twoLegs()},
		{plan(2, "..."), func(p *route.Plan) { put(*p, heavy(), 1, 1); put(*p, heavy(), 2, 0) }, []route.Leg{{1, 0, 160, 3}, {2, 6, 160, 9}}},
		// Waits: at the beginning if she cannot wait later; and she turns back if she can wait nowhere else.
		{plan(3, "..."), func(p *route.Plan) { put(*p, heavy(), 1, 1); put(*p, heavy(), 2, 0, 1) }, []route.Leg{{1, 12, 160, 15}, {2, 15, 160, 18}}},
		{plan(3, ".<>"), func(p *route.Plan) { put(*p, heavy(), 1, 1); put(*p, heavy(), 2, 0, 1) }, []route.Leg{{0, 0, 160, 3}, {1, 12, 160, 15}, {2, 15, 160, 18}}},
		{plan(2, "..."), func(p *route.Plan) { put(*p, level(50, 50), 1) }, []route.Leg{{1, 0, 135, 4}, {2, 4, 160, 7}}},
		{plan(2, "..."), func(p *route.Plan) { put(*p, level(50, 50), 1); p.Channel[1] = true }, []route.Leg{{1, 0, 155, 4}, {2, 4, 160, 7}}},
		{plan(1, "..."), func(p *route.Plan) { p.Size, p.Ship = 41, upTo(250) }, []route.Leg{{1, 0, 250, 1}, {2, 1, 250, 2}}},
		// Fewest legs: she waits for the third hour, though the list of other routes would be less.
		{plan(2, "...", ".<>"), func(p *route.Plan) { put(*p, heavy(), 5, 0) }, []route.Leg{{5, 6, 160, 9}}},
		{plan(2, "...", ".<>"), func(p *route.Plan) { put(*p, heavy(), 5, 0); put(*p, heavy(), 4, 0) }, []route.Leg{{1, 0, 160, 3}, {2, 3, 160, 6}, {5, 6, 160, 9}}},
		// First arrival before fewest legs.
		{plan(4, "...", ".<>"), func(p *route.Plan) { put(*p, level(50, 50), 5); put(*p, heavy(), 5, 0, 1) }, []route.Leg{{5, 12, 135, 16}}},
		// The lesser list: To.
		{plan(2, ring...), func(p *route.Plan) {}, []route.Leg{{1, 0, 160, 3}, {2, 3, 160, 6}, {5, 6, 160, 9}, {8, 9, 160, 12}}},
		{plan(2, ring...), func(p *route.Plan) { put(*p, level(50, 50), 2) }, []route.Leg{{3, 0, 160, 3}, {6, 3, 160, 6}, {7, 6, 160, 9}, {8, 9, 160, 12}}},
		// To counts before Depart.
		{plan(4, ring...), func(p *route.Plan) { put(*p, heavy(), 1, 0); put(*p, heavy(), 8, 0, 1, 2) }, []route.Leg{{1, 6, 160, 9}, {2, 9, 160, 12}, {5, 12, 160, 15}, {8, 18, 160, 21}}},
		// Depart, and Arrive: as soon as she can.
		{plan(2, "..."), func(p *route.Plan) { put(*p, heavy(), 2, 0) }, []route.Leg{{1, 0, 160, 3}, {2, 6, 160, 9}}},
		// Depart counts before Arrive: from 6 on she would be in cell 2 at 9.
		{plan(4, "...."), func(p *route.Plan) {
			strong(p)
			put(*p, level(100, 100), 1, 0)
			put(*p, level(152, 152), 2, 0)
			put(*p, closed(), 3, 0, 1, 2)
		}, []route.Leg{{1, 0, 110, 5}, {2, 5, 60, 13}, {3, 18, 160, 21}}},
		// She could be in each cell, but not as long as she would have to wait.
		{plan(3, "..."), func(p *route.Plan) { put(*p, heavy(), 1, 1); put(*p, heavy(), 2, 0, 1); put(*p, heavy(), 0, 1, 2) }, nil},
	} {
		c.change(&c.p)
		want := api.OK
		if c.want == nil && c.p.From != c.p.To {
			want = api.ErrBlocked
		}
		if l, n, e := route.Best(c.p); !slices.Equal(l, c.want) || n != arrives(c.want) || e != want {
			t.Error(i, l, n, e)
		}
	}
}

// The end: a route may arrive then, and not behind it.
func TestBestAtTheEnd(t *testing.T) {
	for i, c := range []struct {
		p    route.Plan
		want api.Errno
	}{
		{plan(1, "..."), api.OK},
		{plan(1, "...."), api.ErrBlocked},
		{plan(2, "....."), api.OK},
		{plan(2, "......"), api.ErrBlocked},
		{plan(2, "..#.."), api.ErrBlocked},
		{plan(2, "...", "###", "..."), api.ErrBlocked},
		{plan(48, "<#", "#>"), api.ErrBlocked},
	} {
		n := 3 * (len(c.p.Channel) - 1)
		if c.want != api.OK {
			n = 0
		}
		if l, k, e := route.Best(c.p); k != n || arrives(l) != n || e != c.want {
			t.Error(i, l, k, e)
		}
		if k, e := route.Hope(c.p); k != n || e != c.want {
			t.Error(i, k, e)
		}
	}
}

// The best route is the best one of all that are accepted.
func TestAnyBest(t *testing.T) {
	r := random()
	found, waits, slow := 0, 0, 0
	for range 500 {
		p := anyPlan(r, 3, 2, 2)
		p.Size = max(p.Size, 27*len(p.Charts)) // else there would be too many routes
		want, is := modelOf(p).best()
		l, n, e := route.Best(p)
		if !is {
			if l != nil || n != 0 || e != api.ErrBlocked {
				t.Fatal(p, l, n, e)
			}
			continue
		}
		if !slices.Equal(l, want) || n != arrives(want) || e != api.OK {
			t.Fatal(p, l, n, e, want)
		}
		found++
		tick := 0
		for _, leg := range l {
			waits += min(leg.Depart-tick, 1)
			tick = leg.Arrive
			if leg.Speed < 160 {
				slow++
			}
		}
	}
	if found < 200 || waits < 20 || slow < 20 {
		t.Error("too few of a kind", found, waits, slow)
	}
}

func TestHope(t *testing.T) {
	for i, c := range []struct {
		change func(p *route.Plan)
		want   int
		err    api.Errno
	}{
		{func(p *route.Plan) {}, 6, api.OK},
		{func(p *route.Plan) { put(*p, heavy(), 1) }, 6, api.OK},
		{func(p *route.Plan) { put(*p, heavy(), 1); put(*p, heavy(), 2); put(*p, heavy(), 0) }, 6, api.OK},
		{func(p *route.Plan) { put(*p, level(50, 150), 1) }, 7, api.OK},
		{func(p *route.Plan) { put(*p, level(50, 150), 1); p.Channel[1] = true; p.Size = 77 }, 6, api.OK},
		{func(p *route.Plan) { put(*p, closed(), 1, 0) }, 12, api.OK},
		{func(p *route.Plan) { put(*p, closed(), 1) }, 0, api.ErrBlocked},
		{func(p *route.Plan) { put(*p, closed(), 2) }, 0, api.ErrBlocked},
		{func(p *route.Plan) { put(*p, closed(), 2); p.To = 0 }, 0, api.OK},
		// Each quantity has its least.
		{func(p *route.Plan) { c := level(50, 50); c.Conc.Lo = 0; put(*p, c, 1) }, 6, api.OK},
		{func(p *route.Plan) { c := level(50, 50); c.Press.Hi = 3; put(*p, c, 1) }, 7, api.OK},
		{func(p *route.Plan) { c := level(50, 50); c.Ridge.Hi = 100; put(*p, c, 1) }, 7, api.OK},
		{func(p *route.Plan) { c := level(0, 400); c.Press = span(1, 1); put(*p, c, 1) }, 7, api.OK},
		{func(p *route.Plan) { c := level(0, 400); c.Ridge = span(10, 10); put(*p, c, 1) }, 7, api.OK},
	} {
		if n, e := route.Hope(changed(c.change)); n != c.want || e != c.err {
			t.Error(i, n, e)
		}
	}
}

// Hope is what Best says if each cell has its least ice.
func TestAnyHope(t *testing.T) {
	r := random()
	for range 300 {
		p := anyPlan(r, 4, 4, 3)
		n, e := route.Hope(p)
		for i := range p.Charts {
			for k := range p.Charts[i].Cells {
				c := &p.Charts[i].Cells[k]
				c.Conc, c.Thick, c.Ridge, c.Press = sure(c.Conc.Lo), sure(c.Thick.Lo), sure(c.Ridge.Lo), sure(c.Press.Lo)
			}
		}
		if _, k, f := route.Best(p); n != k || e != f {
			t.Fatal(p, n, e, k, f)
		}
	}
}
