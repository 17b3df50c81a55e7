package drift_test

import (
	"slices"
	"testing"

	"polynya/api"
	"polynya/drift"
	"polynya/ice"
)

// P2.1: basins, flows and their moves.

func TestCheckBasin(t *testing.T) {
	for i, f := range frames {
		b := drift.Basin{W: f.w, H: f.h}
		if f.want == api.OK {
			b.Land = make([]bool, f.w*f.h)
		}
		if e := drift.CheckBasin(b); e != f.want {
			t.Error(i, e)
		}
	}
	for i, b := range []drift.Basin{
		{W: 2, H: 3},
		{W: 2, H: 3, Land: make([]bool, 5)},
		{W: 2, H: 3, Land: make([]bool, 7)},
		{W: 64, H: 16, Land: make([]bool, 1025)},
	} {
		if e := drift.CheckBasin(b); e != api.ErrArg {
			t.Error(i, e)
		}
	}
	if e := drift.CheckBasin(drift.Basin{W: 0, H: 3, Land: make([]bool, 5)}); e != api.ErrRange {
		t.Error(e)
	}
	for i, b := range []drift.Basin{basin("#"), basin("##", ".#"), basin("...", "...")} {
		if e := drift.CheckBasin(b); e != api.OK {
			t.Error(i, e)
		}
	}
}

// badSpans are spans that no flow may have.
var badSpans = []api.Span{{Lo: 1, Hi: 0}, {Lo: 2000, Hi: -2000}, {Lo: -2001, Hi: 0}, {Lo: 0, Hi: 2001}, {Lo: -2001, Hi: -2001}, {Lo: 2001, Hi: 2001}, {Lo: -1 << 63, Hi: 0}, {Lo: 0, Hi: 1<<63 - 1}}

func TestCheckFlows(t *testing.T) {
	b := basin("..", "#.")
	good := all(b, to(0, 0))
	for i, f := range []drift.Flow{{}, to(2000, -2000), to(-2000, 2000), {X: span(-2000, 2000), Y: span(-2000, 2000)}, {X: span(-1, 1), Y: span(5, 5)}} {
		if e := drift.CheckFlows(b, with(good, 3, f)); e != api.OK {
			t.Error(i, e)
		}
	}
	for i, s := range badSpans {
		for cell := range good { // that of land, too
			for _, f := range []drift.Flow{{X: s}, {Y: s}} {
				if e := drift.CheckFlows(b, with(good, cell, f)); e != api.ErrDrift {
					t.Error(i, cell, f, e)
				}
			}
		}
	}
	bad := drift.Flow{X: span(1, 0)}
	for i, c := range []struct {
		b    drift.Basin
		l    []drift.Flow
		want api.Errno
	}{
		{drift.Basin{W: 65, H: 1}, []drift.Flow{bad}, api.ErrRange},
		{drift.Basin{W: 2, H: 2}, all(b, bad), api.ErrArg},
		{b, nil, api.ErrArg},
		{b, good[:3], api.ErrArg},
		{b, append(all(b, bad), bad), api.ErrArg},
		{b, all(b, bad), api.ErrDrift},
	} {
		if e := drift.CheckFlows(c.b, c.l); e != c.want {
			t.Error(i, e)
		}
	}
}

// ends are the ends of flows at all ends of thousands, with by how many cells ice moves at least and at most.
var ends = []struct{ n, down, up int }{
	{-2000, -2, -2},
	{-1999, -2, -1},
	{-1001, -2, -1},
	{-1000, -1, -1},
	{-999, -1, 0},
	{-1, -1, 0},
	{0, 0, 0},
	{1, 0, 1},
	{999, 0, 1},
	{1000, 1, 1},
	{1001, 1, 2},
	{1999, 1, 2},
	{2000, 2, 2},
}

func TestMovesAtAllEndsOfThousands(t *testing.T) {
	for i, lo := range ends {
		for _, hi := range ends[i:] {
			s := span(lo.n, hi.n)
			var right, down, both []drift.Move
			for n := lo.down; n <= hi.up; n++ {
				right, down = append(right, drift.Move{DX: n}), append(down, drift.Move{DY: n})
				for k := lo.down; k <= hi.up; k++ {
					both = append(both, drift.Move{DX: k, DY: n})
				}
			}
			for _, c := range []struct {
				f    drift.Flow
				want []drift.Move
			}{{drift.Flow{X: s}, right}, {drift.Flow{Y: s}, down}, {drift.Flow{X: s, Y: s}, both}} {
				if l, e := drift.Moves(c.f); e != api.OK || !slices.Equal(l, c.want) {
					t.Error(c.f, l, e)
				}
			}
		}
	}
}

func TestMoves(t *testing.T) {
	// The order is that of DY, then of DX.
	l, e := drift.Moves(drift.Flow{X: span(-1, 300), Y: span(1000, 1001)})
	if e != api.OK || !slices.Equal(l, []drift.Move{{-1, 1}, {0, 1}, {1, 1}, {-1, 2}, {0, 2}, {1, 2}}) {
		t.Error(l, e)
	}
	for i, s := range badSpans {
		for _, f := range []drift.Flow{{X: s}, {Y: s}} {
			if l, e := drift.Moves(f); l != nil || e != api.ErrDrift {
				t.Error(i, l, e)
			}
		}
	}
}

func TestWeather(t *testing.T) {
	for i, c := range []struct {
		wind, current drift.Flow
		size          int
		want          drift.Flow
	}{
		{drift.Flow{X: span(90, 110)}, drift.Flow{}, 10000, drift.Flow{X: span(64, 80)}},
		{drift.Flow{Y: span(90, 110)}, drift.Flow{}, 10000, drift.Flow{Y: span(64, 80)}},
		{drift.Flow{X: span(-110, -90)}, drift.Flow{}, 10000, drift.Flow{X: span(-80, -64)}},
		// A millimetre a second is in an hour just a thousandth of 3600 metres, less of 3601, and more of 3599.
		{drift.Flow{}, drift.Flow{X: span(-1, 1), Y: span(1, 1)}, 3600, drift.Flow{X: span(-1, 1), Y: span(1, 1)}},
		{drift.Flow{}, drift.Flow{X: span(-1, 1), Y: span(1, 1)}, 3601, drift.Flow{X: span(-1, 1), Y: span(0, 1)}},
		{drift.Flow{}, drift.Flow{X: span(-1, 1), Y: span(1, 1)}, 3599, drift.Flow{X: span(-2, 2), Y: span(1, 2)}},
		// Wind counts twice, and current once: 2 (-3) - 1 and 2 (5) + 7.
		{drift.Flow{X: span(-3, 5)}, drift.Flow{X: span(-1, 7)}, 3600, drift.Flow{X: span(-7, 17)}},
		{drift.Flow{Y: span(-3, 5)}, drift.Flow{Y: span(-1, 7)}, 3600, drift.Flow{Y: span(-7, 17)}},
		{drift.Flow{X: sure(500), Y: sure(-500)}, drift.Flow{X: sure(-1000), Y: sure(1000)}, 100, drift.Flow{}},
		// Both ends are cut, either way.
		{drift.Flow{X: span(-500, 500), Y: span(500, 500)}, drift.Flow{X: span(-3000, 3000), Y: span(3000, 3000)}, 100, drift.Flow{X: span(-2000, 2000), Y: span(2000, 2000)}},
		{drift.Flow{X: sure(-500), Y: sure(-500)}, drift.Flow{X: sure(-3000), Y: sure(-3000)}, 100, to(-2000, -2000)},
		{drift.Flow{}, drift.Flow{X: span(2000, 2001), Y: span(-2001, -2000)}, 3600, to(2000, -2000)},
		{drift.Flow{}, drift.Flow{X: span(1999, 2000), Y: span(-2000, -1999)}, 3600, drift.Flow{X: span(1999, 2000), Y: span(-2000, -1999)}},
		{drift.Flow{X: sure(500)}, drift.Flow{Y: sure(-3000)}, 100000, to(36, -108)},
	} {
		if f, e := drift.Weather(c.wind, c.current, c.size); f != c.want || e != api.OK {
			t.Error(i, f, e)
		}
	}
}

func TestWeatherErrors(t *testing.T) {
	upside := drift.Flow{Y: span(1, 0)}
	for i, c := range []struct {
		wind, current drift.Flow
		size          int
		want          api.Errno
	}{
		{drift.Flow{}, drift.Flow{}, 100, api.OK},
		{drift.Flow{}, drift.Flow{}, 100000, api.OK},
		{drift.Flow{}, drift.Flow{}, 99, api.ErrRange},
		{drift.Flow{}, drift.Flow{}, 100001, api.ErrRange},
		{drift.Flow{}, drift.Flow{}, 0, api.ErrRange},
		{drift.Flow{}, drift.Flow{}, -1 << 63, api.ErrRange},
		{drift.Flow{X: span(1, 0)}, drift.Flow{}, 100, api.ErrDrift},
		{upside, drift.Flow{}, 100, api.ErrDrift},
		{drift.Flow{}, drift.Flow{X: span(1, 0)}, 100, api.ErrDrift},
		{drift.Flow{}, upside, 100, api.ErrDrift},
		{upside, upside, 99, api.ErrRange},
		{upside, drift.Flow{X: sure(3001)}, 100, api.ErrRange},
		{drift.Flow{X: sure(501)}, upside, 100, api.ErrRange},
		{drift.Flow{X: span(501, 0)}, drift.Flow{}, 100, api.ErrRange},
	} {
		if f, e := drift.Weather(c.wind, c.current, c.size); f != (drift.Flow{}) || e != c.want {
			t.Error(i, f, e)
		}
	}
}

func TestLimitsOfWeather(t *testing.T) {
	for i, c := range []struct {
		n             int
		wind, current api.Errno
	}{
		{500, api.OK, api.OK},
		{501, api.ErrRange, api.OK},
		{3000, api.ErrRange, api.OK},
		{3001, api.ErrRange, api.ErrRange},
		{1<<63 - 1, api.ErrRange, api.ErrRange},
	} {
		for _, s := range []api.Span{span(-c.n, 0), span(0, c.n)} {
			for _, f := range []drift.Flow{{X: s}, {Y: s}} {
				if _, e := drift.Weather(f, drift.Flow{}, 5000); e != c.wind {
					t.Error(i, f, e)
				}
				if _, e := drift.Weather(drift.Flow{}, f, 5000); e != c.current {
					t.Error(i, f, e)
				}
			}
		}
	}
}

func TestTargets(t *testing.T) {
	b := basin(
		"..#..",
		".....",
		"..#..",
		".....")
	for i, c := range []struct {
		cell int
		f    drift.Flow
		want []int
	}{
		{6, to(0, 0), []int{6}},
		{6, to(1000, 0), []int{7}},
		{6, to(2000, 0), []int{8}},
		{7, to(-2000, 0), []int{5}},
		{6, to(0, 1000), []int{11}},
		{6, to(0, -1000), []int{1}},
		{6, to(0, 2000), []int{16}},
		// Land, and what is beyond the edges, keeps the ice where it is: in the neighbouring row there is nothing to the right.
		{6, to(1000, 1000), []int{6}},
		{5, to(-1000, 0), []int{5}},
		{9, to(1000, 0), []int{9}},
		{4, to(1000, 1000), []int{4}},
		{1, to(0, -1000), []int{1}},
		{19, to(0, 1000), []int{19}},
		{8, to(2000, 0), []int{8}},
		// Ice passes land that is not its target.
		{10, to(1000, 0), []int{11}},
		{11, to(2000, 0), []int{13}},
		{1, to(2000, 0), []int{3}},
		// One and the same target is named once.
		{0, drift.Flow{X: span(-2000, 0), Y: span(-2000, 0)}, []int{0}},
		{18, drift.Flow{X: span(0, 2000), Y: span(0, 2000)}, []int{18, 19}},
		{8, drift.Flow{X: span(1, 1), Y: span(-1, 1)}, []int{3, 4, 8, 9, 13, 14}},
		{1, drift.Flow{X: span(-1, 1), Y: span(0, 1)}, []int{0, 1, 5, 6, 7}},
		{13, drift.Flow{X: span(-1001, -1000)}, []int{11, 13}},
	} {
		if l, e := drift.Targets(b, with(all(b, to(500, -500)), c.cell, c.f), c.cell); e != api.OK || !slices.Equal(l, c.want) {
			t.Error(i, l, e)
		}
	}
	good := all(b, drift.Flow{})
	for i, c := range []struct {
		b    drift.Basin
		l    []drift.Flow
		cell int
		want api.Errno
	}{
		{b, good, 2, api.ErrArg},
		{b, good, -1, api.ErrArg},
		{b, good, 20, api.ErrArg},
		{b, good, 1<<63 - 1, api.ErrArg},
		{b, good, -1 << 63, api.ErrArg},
		{drift.Basin{W: 5, H: 0}, good, -1, api.ErrRange},
		{b, good[1:], 0, api.ErrArg},
		{b, with(good, 19, to(2001, 0)), -1, api.ErrDrift},
	} {
		if l, e := drift.Targets(c.b, c.l, c.cell); l != nil || e != c.want {
			t.Error(i, l, e)
		}
	}
}

func TestAnyTargets(t *testing.T) {
	r := random()
	for range 200 {
		b := anyBasin(r, 6, 6)
		l := anyFlows(r, b, 3000)
		for i, land := range b.Land {
			got, e := drift.Targets(b, l, i)
			if land && e != api.ErrArg || !land && (e != api.OK || !slices.Equal(got, targetsOf(b, l[i], i))) {
				t.Fatal(b, l[i], i, got, e)
			}
		}
	}
}

func TestShore(t *testing.T) {
	b := basin(".#", "#.")
	x := only(ice.Ice{Conc: 90, Thick: 30, Ridge: 2, Press: 1})
	c, e := drift.Shore(b, chart(b, x, x, ice.Cell{Press: sure(1)}, x))
	if e != api.OK || !sameChart(c, chart(b, x, ice.Cell{}, ice.Cell{}, x)) {
		t.Error(c, e)
	}
	if again, e := drift.Shore(b, c); e != api.OK || !sameChart(again, c) {
		t.Error(again, e)
	}
	bad := ice.Cell{Conc: span(2, 1)}
	for i, c := range []struct {
		b    drift.Basin
		c    ice.Chart
		want api.Errno
	}{
		{drift.Basin{W: 1, H: 65}, ice.Chart{}, api.ErrRange},
		{drift.Basin{W: 2, H: 2}, ice.Chart{}, api.ErrArg},
		{b, ice.Chart{}, api.ErrRange},
		{b, chart(b, x), api.ErrArg},
		{b, chart(b, x, bad, x, x), api.ErrIce},
		{b, chart(basin("...."), x, bad, x, x), api.ErrIce},
		{b, chart(basin("...."), x, x, x, x), api.ErrArg},
		{basin("..", "..", ".."), chart(b, x, x, x, x), api.ErrArg},
		{basin("...", "..."), chart(b, x, x, x, x), api.ErrArg},
	} {
		if got, e := drift.Shore(c.b, c.c); !sameChart(got, ice.Chart{}) || e != c.want {
			t.Error(i, got, e)
		}
	}
}
