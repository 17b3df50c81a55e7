package route_test

import (
	"slices"
	"testing"

	"polynya/api"
	"polynya/hull"
	"polynya/ice"
	"polynya/route"
)

// P4.1: plans.

func TestCheck(t *testing.T) {
	for i, c := range []struct {
		change func(p *route.Plan)
		want   api.Errno
	}{
		{func(p *route.Plan) {}, api.OK},
		{func(p *route.Plan) { p.Basin.H = 0 }, api.ErrRange},
		{func(p *route.Plan) { p.Basin.W = 65 }, api.ErrRange},
		{func(p *route.Plan) { p.Basin.Land = p.Basin.Land[:2] }, api.ErrArg},
		{func(p *route.Plan) { p.Basin.Land = append(p.Basin.Land, false) }, api.ErrArg},
		{func(p *route.Plan) { p.Charts = nil }, api.ErrMany},
		{func(p *route.Plan) { p.Charts[0].W = 0 }, api.ErrRange},
		{func(p *route.Plan) { p.Charts[1].H = 65 }, api.ErrRange},
		{func(p *route.Plan) { p.Charts[0].Hour = -1 }, api.ErrRange},
		{func(p *route.Plan) { p.Charts[0].Hour, p.Charts[1].Hour = 10000, 10001 }, api.ErrRange},
		{func(p *route.Plan) { p.Charts[0].Hour, p.Charts[1].Hour = 9999, 10000 }, api.OK},
		{func(p *route.Plan) { p.Charts[1].Cells = p.Charts[1].Cells[:2] }, api.ErrArg},
		{func(p *route.Plan) { p.Charts[1].Cells[2].Thick = span(2, 1) }, api.ErrIce},
		{func(p *route.Plan) { p.Charts[0] = plan(1, "..").Charts[0] }, api.ErrArg},
		{func(p *route.Plan) { p.Charts[1] = plan(2, "....").Charts[1] }, api.ErrArg},
		// As many cells, but other sides.
		{func(p *route.Plan) { p.Charts[1] = plan(2, ".", ".", ".").Charts[1] }, api.ErrArg},
		{func(p *route.Plan) { p.Charts[0].W, p.Charts[0].H = 1, 3 }, api.ErrArg},
		{func(p *route.Plan) { p.Charts[1].Hour = 7 }, api.ErrOrder},
		{func(p *route.Plan) { p.Charts[1].Hour = 9 }, api.ErrOrder},
		{func(p *route.Plan) { p.Charts[1].Hour = 6 }, api.ErrOrder},
		{func(p *route.Plan) { p.Charts[0].Hour = 8 }, api.ErrOrder},
		{func(p *route.Plan) { p.Channel = nil }, api.ErrArg},
		{func(p *route.Plan) { p.Channel = make([]bool, 2) }, api.ErrArg},
		{func(p *route.Plan) { p.Channel = make([]bool, 4) }, api.ErrArg},
		{func(p *route.Plan) { p.Ship.Class = 7 }, api.ErrClass},
		{func(p *route.Plan) { p.Ship.Ice = nil }, api.ErrHull},
		{func(p *route.Plan) { p.From = p.To }, api.OK},
		{func(p *route.Plan) { p.From, p.To = p.To, p.From }, api.OK},
		{func(p *route.Plan) { p.Basin.Land[0] = true }, api.ErrArg},
		{func(p *route.Plan) { p.Basin.Land[2] = true }, api.ErrArg},
		{func(p *route.Plan) { p.Basin.Land[1] = true }, api.OK},
		// Ice on land does not matter, unless it is no cell.
		{func(p *route.Plan) { p.Basin.Land[1] = true; put(*p, heavy(), 1) }, api.OK},
		{func(p *route.Plan) { p.Basin.Land[1] = true; p.Charts[1].Cells[1].Press.Hi = 4 }, api.ErrIce},
	} {
		if e := route.Check(changed(c.change)); e != c.want {
			t.Error(i, e)
		}
	}
}

func TestLimitsOfPlans(t *testing.T) {
	for _, n := range append([]int{499, 500, 501}, wild...) {
		size, end := api.ErrRange, api.ErrArg
		if n >= 1 && n <= 500 {
			size = api.OK
		}
		if n >= 0 && n < 3 {
			end = api.OK
		}
		if e := route.Check(changed(func(p *route.Plan) { p.Size = n })); e != size {
			t.Error(n, e)
		}
		if e := route.Check(changed(func(p *route.Plan) { p.From = n })); e != end {
			t.Error(n, e)
		}
		if e := route.Check(changed(func(p *route.Plan) { p.To = n })); e != end {
			t.Error(n, e)
		}
	}
	for n, want := range map[int]api.Errno{0: api.ErrMany, 1: api.OK, 2: api.OK, 47: api.OK, 48: api.OK, 49: api.ErrMany, 1000: api.ErrMany} {
		if e := route.Check(plan(n, "...")); e != want {
			t.Error(n, e)
		}
	}
	if e := route.Check(plan(1, ".")); e != api.OK {
		t.Error(e)
	}
}

// wrongs are all that may be wrong with a plan, in the order of their errors: each change leaves alone what the ones before it need.
var wrongs = []struct {
	want   api.Errno
	change func(p *route.Plan)
}{
	{api.ErrArg, func(p *route.Plan) { p.To = 3 }},
	{api.ErrRange, func(p *route.Plan) { p.Size = 0 }},
	{api.ErrHull, func(p *route.Plan) { p.Ship.Power = 0 }},
	{api.ErrClass, func(p *route.Plan) { p.Ship.Class = 0 }},
	{api.ErrArg, func(p *route.Plan) { p.Channel = nil }},
	{api.ErrOrder, func(p *route.Plan) { p.Charts[1].Hour = 20 }},
	{api.ErrArg, func(p *route.Plan) { p.Charts[1].W, p.Charts[1].H = 1, 3 }},
	{api.ErrIce, func(p *route.Plan) { p.Charts[1].Cells[0].Conc = sure(101) }},
	{api.ErrArg, func(p *route.Plan) { p.Charts[0].Cells = nil }},
	{api.ErrRange, func(p *route.Plan) { p.Charts[0].Hour = 10001 }},
	{api.ErrMany, func(p *route.Plan) { p.Charts = append(p.Charts, plan(47, "...").Charts...) }},
	{api.ErrArg, func(p *route.Plan) { p.Basin.Land = nil }},
	{api.ErrRange, func(p *route.Plan) { p.Basin.W = -1 }},
}

// R1: of several errors the first one that is named, of all functions. R2: with an error there is no other result.
func TestErrorsOfPlansEverywhere(t *testing.T) {
	p := plan(2, "...")
	for i, c := range wrongs {
		c.change(&p)
		alone := changed(c.change)
		for _, f := range faces() {
			for _, q := range []route.Plan{p, alone} {
				if l, e := f.call(q); !nothing(l) || e != c.want {
					t.Error(i, f.name, l, e)
				}
			}
		}
	}
}

// The first chart with an error decides, whatever the error of a later one is.
func TestFirstWrongChart(t *testing.T) {
	for i, c := range []struct {
		change func(l []ice.Chart)
		want   api.Errno
	}{
		{func(l []ice.Chart) { l[1].Hour, l[2].Cells[0].Conc = 20, sure(101) }, api.ErrOrder},
		{func(l []ice.Chart) { l[1].W, l[1].H, l[2].Cells[0].Conc = 1, 3, sure(101) }, api.ErrArg},
		{func(l []ice.Chart) { l[0].W, l[0].H, l[1].Hour = 1, 3, 20 }, api.ErrArg},
		{func(l []ice.Chart) { l[0].Cells[2].Press, l[1].Hour, l[2].W = sure(4), 20, 0 }, api.ErrIce},
		{func(l []ice.Chart) { l[1].Hour, l[2].W = 20, 0 }, api.ErrOrder},
		{func(l []ice.Chart) { l[2].Hour = 10 }, api.ErrOrder},
	} {
		p := plan(3, "...")
		c.change(p.Charts)
		if e := route.Check(p); e != c.want {
			t.Error(i, e)
		}
	}
}

func TestSafe(t *testing.T) {
	p := plan(3, ".#", "..")
	p.Channel[3] = true
	put(p, level(50, 50), 0, 1)
	put(p, heavy(), 0, 2)
	put(p, level(50, 50), 3, 1)
	put(p, ice.Cell{Conc: sure(100), Thick: sure(100), Ridge: sure(40)}, 2, 2) // her resistance at 10 is 20 + 500 + 400: 920; the load 11000 + 12000
	for i, c := range []struct {
		cell, hour, want int
		err              api.Errno
	}{
		{0, 0, 160, api.OK},
		{0, 1, 135, api.OK},
		{0, 2, 0, api.ErrNone},
		{2, 1, 160, api.OK},
		{2, 2, 0, api.ErrClass},
		{3, 0, 160, api.OK},
		{3, 1, 155, api.OK},
		{1, 0, 0, api.ErrArg},
		{-1, 0, 0, api.ErrArg},
		{4, 0, 0, api.ErrArg},
		{0, -1, 0, api.ErrArg},
		{0, 3, 0, api.ErrArg},
		{1 << 62, 0, 0, api.ErrArg},
		{0, -1 << 63, 0, api.ErrArg},
		{0, 1<<63 - 1, 0, api.ErrArg},
	} {
		if n, e := route.Safe(p, c.cell, c.hour); n != c.want || e != c.err {
			t.Error(i, n, e)
		}
	}
}

func TestAnySafe(t *testing.T) {
	r := random()
	for range 200 {
		p := anyPlan(r, 4, 4, 3)
		for hour, c := range p.Charts {
			for cell, x := range c.Cells {
				want, err := hull.Safe(p.Ship, x, p.Channel[cell])
				if p.Basin.Land[cell] {
					want, err = 0, api.ErrArg
				}
				if n, e := route.Safe(p, cell, hour); n != want || e != err {
					t.Fatal(p, cell, hour, n, e)
				}
			}
		}
	}
}

func TestOptions(t *testing.T) {
	p := plan(2, "...", ".#.", "...")
	for i, c := range []struct {
		cell, tick int
		want       []route.Leg
	}{
		// 480 by the speed, rounded up: 3 ticks from 160 on, 4 from 120 to 159, 5 from 96, 6 from 80.
		{0, 9, []route.Leg{{1, 9, 160, 12}, {3, 9, 160, 12}}},
		{0, 8, []route.Leg{{1, 8, 160, 11}, {1, 8, 159, 12}, {3, 8, 160, 11}, {3, 8, 159, 12}}},
		{1, 9, []route.Leg{{0, 9, 160, 12}, {2, 9, 160, 12}}},
		{3, 9, []route.Leg{{0, 9, 160, 12}, {6, 9, 160, 12}}},
		{5, 9, []route.Leg{{2, 9, 160, 12}, {8, 9, 160, 12}}},
		{7, 9, []route.Leg{{6, 9, 160, 12}, {8, 9, 160, 12}}},
		{2, 7, []route.Leg{{1, 7, 160, 10}, {1, 7, 159, 11}, {1, 7, 119, 12}, {5, 7, 160, 10}, {5, 7, 159, 11}, {5, 7, 119, 12}}},
		// None arrives behind the end.
		{0, 10, nil},
		{0, 11, nil},
		{0, 12, nil},
	} {
		if l, e := route.Options(p, c.cell, c.tick); e != api.OK || !slices.Equal(l, c.want) {
			t.Error(i, l, e)
		}
	}
	// The neighbours of an inner cell, in their order.
	l, e := route.Options(plan(1, "...", "...", "..."), 4, 3)
	if e != api.OK || !slices.Equal(l, []route.Leg{{1, 3, 160, 6}, {3, 3, 160, 6}, {5, 3, 160, 6}, {7, 3, 160, 6}}) {
		t.Error(l, e)
	}
	for i, c := range []struct {
		cell, tick int
		want       api.Errno
	}{
		{4, 0, api.ErrArg},
		{-1, 0, api.ErrArg},
		{9, 0, api.ErrArg},
		{-1 << 63, 0, api.ErrArg},
		{1<<63 - 1, 0, api.ErrArg},
		{0, -1, api.ErrRange},
		{0, 13, api.ErrRange},
		{0, -1 << 63, api.ErrRange},
		{0, 1<<63 - 1, api.ErrRange},
		{4, 13, api.ErrArg},
		{0, 12, api.OK},
	} {
		if l, e := route.Options(p, c.cell, c.tick); len(l) != 0 || e != c.want {
			t.Error(i, l, e)
		}
	}
}

// A leg that is under way while the chart changes needs its speed in both charts.
func TestOptionsWhileTheChartChanges(t *testing.T) {
	p := plan(2, "..")
	put(p, level(50, 50), 1, 0)
	for tick, want := range map[int][]route.Leg{
		2: {{1, 2, 135, 6}, {1, 2, 119, 7}, {1, 2, 95, 8}, {1, 2, 79, 9}, {1, 2, 68, 10}, {1, 2, 59, 11}, {1, 2, 53, 12}},
		5: {{1, 5, 135, 9}, {1, 5, 119, 10}, {1, 5, 95, 11}, {1, 5, 79, 12}},
		6: {{1, 6, 160, 9}, {1, 6, 159, 10}, {1, 6, 119, 11}, {1, 6, 95, 12}},
	} {
		if l, e := route.Options(p, 0, tick); e != api.OK || !slices.Equal(l, want) {
			t.Error(tick, l, e)
		}
	}
	// The tick in which it arrives does not count, and the one before it does.
	put(p, ice.Cell{}, 1)
	put(p, heavy(), 1, 1)
	for tick, want := range map[int][]route.Leg{
		2: {{1, 2, 160, 5}, {1, 2, 159, 6}},
		3: {{1, 3, 160, 6}},
		4: nil,
	} {
		if l, e := route.Options(p, 0, tick); e != api.OK || !slices.Equal(l, want) {
			t.Error(tick, l, e)
		}
	}
	// The ice of the cell from which a leg goes does not matter.
	put(p, ice.Cell{}, 1)
	put(p, closed(), 0)
	if l, e := route.Options(p, 0, 9); e != api.OK || !slices.Equal(l, []route.Leg{{1, 9, 160, 12}}) {
		t.Error(l, e)
	}
}

// The speeds of legs reach from 10 to 250.
func TestSpeedsOfOptions(t *testing.T) {
	p := plan(48, "..")
	p.Ship = upTo(250)
	for _, c := range []struct {
		size        int
		first, last route.Leg
	}{
		{1, route.Leg{To: 1, Speed: 250, Arrive: 1}, route.Leg{To: 1, Speed: 250, Arrive: 1}},
		{2, route.Leg{To: 1, Speed: 250, Arrive: 1}, route.Leg{To: 1, Speed: 11, Arrive: 2}},
		{5, route.Leg{To: 1, Speed: 250, Arrive: 1}, route.Leg{To: 1, Speed: 14, Arrive: 3}},
		// 250 by 250 are just one tick, and 252 are two.
		{41, route.Leg{To: 1, Speed: 250, Arrive: 1}, route.Leg{To: 1, Speed: 10, Arrive: 25}},
		{42, route.Leg{To: 1, Speed: 250, Arrive: 2}, route.Leg{To: 1, Speed: 10, Arrive: 26}},
		{80, route.Leg{To: 1, Speed: 250, Arrive: 2}, route.Leg{To: 1, Speed: 10, Arrive: 48}},
		// At 10 she would need 300 ticks for 500, behind the end, and just 288 for 480.
		{500, route.Leg{To: 1, Speed: 250, Arrive: 12}, route.Leg{To: 1, Speed: 11, Arrive: 273}},
		{480, route.Leg{To: 1, Speed: 250, Arrive: 12}, route.Leg{To: 1, Speed: 10, Arrive: 288}},
	} {
		p.Size = c.size
		l, e := route.Options(p, 0, 0)
		if e != api.OK || l[0] != c.first || l[len(l)-1] != c.last {
			t.Error(c.size, l, e)
		}
		if want := modelOf(p).options(0, 0); !slices.Equal(l, want) {
			t.Error(c.size, l, want)
		}
	}
	// At 10 she makes just the least speed.
	p.Ship, p.Size = upTo(10), 80
	if l, e := route.Options(p, 0, 240); e != api.OK || !slices.Equal(l, []route.Leg{{1, 240, 10, 288}}) {
		t.Error(l, e)
	}
	if l, e := route.Options(p, 0, 241); e != api.OK || len(l) != 0 {
		t.Error(l, e)
	}
}

func TestAnyOptions(t *testing.T) {
	r := random()
	for range 60 {
		p := anyPlan(r, 4, 4, 3)
		m := modelOf(p)
		for cell, land := range p.Basin.Land {
			if land {
				continue
			}
			for tick := range m.end + 1 {
				if l, e := route.Options(p, cell, tick); e != api.OK || !slices.Equal(l, m.options(cell, tick)) {
					t.Fatal(p, cell, tick, l, e)
				}
			}
		}
	}
}
