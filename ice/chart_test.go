package ice_test

import (
	"slices"
	"testing"

	"polynya/api"
	"polynya/ice"
)

// frames are sides and an hour of a chart, and the error of them.
var frames = []struct {
	w, h, hour int
	want       api.Errno
}{
	{1, 1, 0, api.OK},
	{64, 16, 10000, api.OK},
	{16, 64, 1, api.OK},
	{32, 32, 1, api.OK},
	{0, 1, 0, api.ErrRange},
	{1, 0, 0, api.ErrRange},
	{-1, -1, 0, api.ErrRange},
	{-1, 5, 0, api.ErrRange},
	{65, 1, 0, api.ErrRange},
	{1, 65, 0, api.ErrRange},
	{64, 17, 0, api.ErrRange},
	{33, 32, 0, api.ErrRange},
	{25, 41, 0, api.ErrRange},
	{1, 1, -1, api.ErrRange},
	{1, 1, 10001, api.ErrRange},
	{1 << 32, 1 << 32, 0, api.ErrRange},
	{1 << 62, 4, 0, api.ErrRange},
	{-1 << 63, -1 << 63, 0, api.ErrRange},
}

// chart makes a chart of two columns and two rows at hour 5.
func chart(cells ...ice.Cell) ice.Chart {
	return ice.Chart{W: 2, H: 2, Hour: 5, Cells: cells}
}

// P1.4: what charts may be.

func TestFrames(t *testing.T) {
	for i, f := range frames {
		c, e := ice.Blank(f.w, f.h, f.hour)
		d, left, f2 := ice.Draw(f.w, f.h, nil, ice.Rates{}, f.hour)
		if e != f.want || f2 != f.want || len(left) != 0 || !sameChart(c, d) {
			t.Error(i, e, f2)
		}
		if f.want != api.OK {
			if !noChart(c) || ice.CheckChart(ice.Chart{W: f.w, H: f.h, Hour: f.hour}) != f.want {
				t.Error(i, c)
			}
			continue
		}
		if c.W != f.w || c.H != f.h || c.Hour != f.hour || len(c.Cells) != f.w*f.h || slices.ContainsFunc(c.Cells, func(x ice.Cell) bool { return x != whole() }) {
			t.Error(i, c)
		}
		if e := ice.CheckChart(c); e != api.OK {
			t.Error(i, e)
		}
	}
}

func TestCheckChart(t *testing.T) {
	w := whole()
	for q, name := range names {
		if e := ice.CheckChart(chart(w, w, w, cellWith(q, span(2, 1)))); e != api.ErrIce {
			t.Error(name, e)
		}
		if e := ice.CheckChart(chart(cellWith(q, span(0, most[q]+1)), w, w, w)); e != api.ErrIce {
			t.Error(name, e)
		}
	}
	bad := cellWith(0, span(2, 1))
	for i, c := range []struct {
		c    ice.Chart
		want api.Errno
	}{
		{chart(w, w, w, w), api.OK},
		{chart(w, w, w), api.ErrArg},
		{chart(), api.ErrArg},
		{chart(w, w, w, w, w), api.ErrArg},
		{chart(bad, w, w), api.ErrArg},
		{ice.Chart{W: 0, H: 2, Hour: 5, Cells: []ice.Cell{bad}}, api.ErrRange},
		{ice.Chart{W: 2, H: 2, Hour: -1, Cells: []ice.Cell{bad}}, api.ErrRange},
		{ice.Chart{}, api.ErrRange},
	} {
		if e := ice.CheckChart(c.c); e != c.want {
			t.Error(i, e)
		}
	}
}

// P1.4: drawing.

func TestDraw(t *testing.T) {
	at := func(r ice.Report, id, x, y int) ice.Report {
		r.Id, r.X, r.Y = id, x, y
		return r
	}
	l := []ice.Report{
		at(report(0, 5, 1, span(60, 80)), 9, 2, 1),
		at(report(0, 3, 0, span(90, 100)), 8, 0, 0),
		at(report(0, 5, 1, span(30, 50)), 7, 2, 1),
		at(report(0, 5, 3, span(0, 0)), 6, 1, 0),
		at(report(0, 5, 3, span(2, 3)), 5, 1, 0),
		at(report(0, 5, 1, span(50, 55)), 4, 2, 1),
	}
	// Of the cell in column 2 and row 1 the last two agree, of that in column 1 and row 0 the first one is trusted.
	c, left, e := ice.Draw(3, 2, l, ice.Rates{Down: ice.Ice{Conc: 12}}, 5)
	w := whole()
	want := ice.Chart{W: 3, H: 2, Hour: 5, Cells: []ice.Cell{cellWith(0, span(89, 100)), cellWith(3, span(0, 0)), w, w, w, cellWith(1, span(50, 50))}}
	if e != api.OK || !sameChart(c, want) || !slices.Equal(left, []int{0, 4}) {
		t.Error(c, left, e)
	}
}

func TestDrawSortsWhatIsLeft(t *testing.T) {
	// The cells' reports come in turns, and in the order of neither columns nor rows.
	var l []ice.Report
	var want []int
	for i := range 9 {
		r := report(i, 5, 1, span(10*i, 10*i+5))
		r.X, r.Y = 2-i%3, i%3
		l = append(l, r)
		if i >= 3 {
			want = append(want, i)
		}
	}
	if _, left, e := ice.Draw(3, 3, l, ice.Rates{}, 5); e != api.OK || !slices.Equal(left, want) {
		t.Error(left, e)
	}
}

func TestDrawErrors(t *testing.T) {
	fast := ice.Rates{Up: iceWith(0, 1001)}
	twelve := func(last ...ice.Report) []ice.Report {
		var l []ice.Report
		for i := range 12 {
			l = append(l, report(i, 5, 1, span(i, 20)))
		}
		return append(l, last...)
	}
	thirteenth := report(12, 5, 1, span(12, 20))
	changed := func(change func(r *ice.Report)) ice.Report {
		r := thirteenth
		change(&r)
		return r
	}
	for i, c := range []struct {
		w, h int
		l    []ice.Report
		m    ice.Rates
		now  int
		want api.Errno
	}{
		{3, 2, twelve(), ice.Rates{}, 5, api.OK},
		{3, 2, twelve(changed(func(r *ice.Report) { r.X = 1 })), ice.Rates{}, 5, api.OK},
		{3, 2, twelve(changed(func(r *ice.Report) { r.X, r.Y = 1, 0 })), ice.Rates{}, 5, api.OK},
		{3, 2, twelve(thirteenth), ice.Rates{}, 5, api.ErrMany},
		{3, 2, twelve(changed(func(r *ice.Report) { r.At = 6 })), ice.Rates{}, 5, api.ErrTime},
		{3, 2, twelve(changed(func(r *ice.Report) { r.X, r.At = 3, 6 })), ice.Rates{}, 5, api.ErrArg},
		{3, 2, twelve(changed(func(r *ice.Report) { r.Y, r.At = 2, 6 })), ice.Rates{}, 5, api.ErrArg},
		{3, 2, twelve(changed(func(r *ice.Report) { r.Id, r.X, r.At = 4, 3, 6 })), ice.Rates{}, 5, api.ErrTwice},
		{3, 2, twelve(changed(func(r *ice.Report) { r.Id, r.X, r.At, r.Has = 4, 3, 6, 0 })), ice.Rates{}, 5, api.ErrIce},
		{3, 2, twelve(thirteenth, ice.Report{}), ice.Rates{}, 5, api.ErrMany},
		{3, 2, twelve(changed(func(r *ice.Report) { r.At = 6 }), ice.Report{}), ice.Rates{}, 5, api.ErrTime},
		{3, 2, make([]ice.Report, 401), ice.Rates{}, 5, api.ErrMany},
		{3, 2, make([]ice.Report, 400), ice.Rates{}, 5, api.ErrIce},
		{3, 2, make([]ice.Report, 401), fast, 5, api.ErrRange},
		{3, 2, make([]ice.Report, 401), ice.Rates{}, 10001, api.ErrRange},
		{3, 2, make([]ice.Report, 401), ice.Rates{}, -1, api.ErrRange},
		{0, 2, make([]ice.Report, 401), ice.Rates{}, 5, api.ErrRange},
		{2, 2, twelve(), ice.Rates{}, 5, api.ErrArg},
		{3, 1, twelve(), ice.Rates{}, 5, api.ErrArg},
		{3, 2, twelve(), ice.Rates{}, 4, api.ErrTime},
	} {
		x, left, e := ice.Draw(c.w, c.h, c.l, c.m, c.now)
		if e != c.want || e != api.OK && (!noChart(x) || len(left) != 0) {
			t.Error(i, x, left, e)
		}
	}
}

func TestDrawErrorsOfEachReport(t *testing.T) {
	for name, change := range wrong() {
		r := report(7, 5, 1, span(30, 50))
		change(&r)
		if c, left, e := ice.Draw(32, 32, []ice.Report{report(1, 5, 1, span(30, 50)), r}, ice.Rates{}, 10000); !noChart(c) || len(left) != 0 || e != api.ErrIce {
			t.Error(name, c, left, e)
		}
	}
}

func TestDrawAsManyReportsAsThereMayBe(t *testing.T) {
	r := random()
	var l []ice.Report
	m := anyRates(r, 10)
	for i := range 400 {
		x := anyReports(r, 1, 30)[0]
		x.Id, x.X, x.Y = 1000000-i, i%7, i/7%5
		l = append(l, x)
	}
	c, left, e := ice.Draw(8, 5, l, m, 30)
	if e != api.OK {
		t.Fatal(e)
	}
	var want []int
	for cell := range c.Cells {
		var of []ice.Report
		var at []int
		for i, x := range l {
			if x.X == cell%8 && x.Y == cell/8 {
				of, at = append(of, x), append(at, i)
			}
		}
		trusted, told, _ := contradictions(of, m, 30)
		if c.Cells[cell] != told {
			t.Error(cell, c.Cells[cell], told)
		}
		for k, is := range trusted {
			if !is {
				want = append(want, at[k])
			}
		}
	}
	slices.Sort(want)
	if !slices.Equal(left, want) {
		t.Error(left, want)
	}
}

// P1.4: what becomes of charts.

func TestAgeChart(t *testing.T) {
	c := chart(cellWith(0, span(40, 60)), cellWith(1, span(100, 120)), cellWith(2, span(10, 20)), cellWith(3, span(1, 2)))
	m := ice.Rates{Up: ice.Ice{Conc: 10, Thick: 25, Ridge: 1}, Down: ice.Ice{Conc: 24, Ridge: 24, Press: 1}}
	want := chart(cellWith(0, span(10, 73)), cellWith(1, span(100, 152)), cellWith(2, span(0, 22)), cellWith(3, span(0, 2)))
	want.Hour = 35
	if x, e := ice.AgeChart(c, m, 30); e != api.OK || !sameChart(x, want) {
		t.Error(x, e)
	}
	if x, e := ice.AgeChart(c, m, 0); e != api.OK || !sameChart(x, c) {
		t.Error(x, e)
	}
}

func TestAgeChartErrors(t *testing.T) {
	w := whole()
	good, fast := chart(w, w, w, w), ice.Rates{Up: iceWith(3, -1)}
	for i, c := range []struct {
		c     ice.Chart
		m     ice.Rates
		hours int
		want  api.Errno
	}{
		{good, ice.Rates{}, 9995, api.OK},
		{good, ice.Rates{}, 9996, api.ErrRange},
		{good, ice.Rates{}, 1<<63 - 1, api.ErrRange},
		{good, ice.Rates{}, -1, api.ErrRange},
		{good, ice.Rates{}, -5, api.ErrRange},
		{good, ice.Rates{}, -1 << 63, api.ErrRange},
		{good, fast, 1, api.ErrRange},
		{chart(w, w), fast, -1, api.ErrArg},
		{chart(w, w, w, cellWith(0, span(2, 1))), fast, -1, api.ErrIce},
		{ice.Chart{}, ice.Rates{}, 1, api.ErrRange},
	} {
		x, e := ice.AgeChart(c.c, c.m, c.hours)
		if e != c.want || e != api.OK && !noChart(x) {
			t.Error(i, x, e)
		}
	}
}

func TestTwoCharts(t *testing.T) {
	w := whole()
	a := chart(cellWith(0, span(10, 20)), w, cellWith(1, span(5, 50)), cellWith(3, span(1, 1)))
	b := chart(cellWith(0, span(15, 30)), cellWith(2, span(7, 8)), cellWith(1, span(0, 5)), cellWith(3, span(0, 1)))
	both := chart(cellWith(0, span(15, 20)), cellWith(2, span(7, 8)), cellWith(1, span(5, 5)), cellWith(3, span(1, 1)))
	hull := chart(cellWith(0, span(10, 30)), w, cellWith(1, span(0, 50)), cellWith(3, span(0, 1)))
	if x, e := ice.MeetCharts(a, b); e != api.OK || !sameChart(x, both) {
		t.Error(x, e)
	}
	if x, e := ice.HullCharts(a, b); e != api.OK || !sameChart(x, hull) {
		t.Error(x, e)
	}
	for i, p := range []struct {
		in, out ice.Chart
		want    bool
	}{{a, a, true}, {both, a, true}, {both, b, true}, {a, hull, true}, {b, hull, true}, {a, b, false}, {b, a, false}, {hull, both, false}} {
		if is, e := ice.InsideChart(p.in, p.out); e != api.OK || is != p.want {
			t.Error(i, is, e)
		}
	}
	for i := range 4 {
		out := chart(w, w, w, w)
		out.Cells[i].Ridge = span(3, 100)
		if is, e := ice.InsideChart(chart(w, w, w, w), out); is || e != api.OK {
			t.Error(i, is, e)
		}
		in := chart(w, w, w, w)
		in.Cells[i].Ridge = span(0, 2)
		if x, e := ice.MeetCharts(in, out); !noChart(x) || e != api.ErrEmpty {
			t.Error(i, x, e)
		}
		if x, e := ice.HullCharts(in, out); !sameChart(x, chart(w, w, w, w)) || e != api.OK {
			t.Error(i, x, e)
		}
	}
}

func TestErrorsOfTwoCharts(t *testing.T) {
	w, bad := whole(), cellWith(0, span(2, 1))
	good := chart(w, w, w, w)
	later, flat, row := chart(w, w, w, w), ice.Chart{W: 4, H: 1, Hour: 5, Cells: good.Cells}, ice.Chart{W: 2, H: 1, Hour: 5, Cells: good.Cells[:2]}
	later.Hour = 6
	apart := chart(w, w, w, cellWith(0, span(0, 0)))
	apart.Hour = 6
	low := chart(w, w, w, cellWith(0, span(1, 1)))
	for i, c := range []struct {
		a, b ice.Chart
		want api.Errno
	}{
		{good, good, api.OK},
		{good, later, api.ErrArg},
		{good, flat, api.ErrArg},
		{good, row, api.ErrArg},
		{row, good, api.ErrArg},
		{low, apart, api.ErrArg},
		{good, chart(w, w, w, bad), api.ErrIce},
		{chart(w, w, w, bad), good, api.ErrIce},
		{later, chart(w, w, w, bad), api.ErrIce},
		{chart(w, w, w, bad), chart(w, w, w), api.ErrIce},
		{chart(w, w, w), chart(w, w, w, bad), api.ErrArg},
		{ice.Chart{}, chart(w, w, w, bad), api.ErrRange},
		{chart(w, w, w, bad), ice.Chart{}, api.ErrIce},
		{good, ice.Chart{}, api.ErrRange},
	} {
		if x, e := ice.MeetCharts(c.a, c.b); e != c.want || e != api.OK && !noChart(x) {
			t.Error("MeetCharts", i, x, e)
		}
		if x, e := ice.HullCharts(c.a, c.b); e != c.want || e != api.OK && !noChart(x) {
			t.Error("HullCharts", i, x, e)
		}
		if is, e := ice.InsideChart(c.a, c.b); e != c.want || is != (e == api.OK) {
			t.Error("InsideChart", i, is, e)
		}
	}
}

func TestHolds(t *testing.T) {
	w := whole()
	c := chart(cellWith(0, span(10, 20)), w, cellWith(1, span(5, 50)), cellWith(3, span(1, 1)))
	good := []ice.Ice{{Conc: 10}, {Thick: 400}, {Thick: 50}, {Press: 1}}
	if is, e := ice.Holds(c, good); !is || e != api.OK {
		t.Error(is, e)
	}
	for i, x := range map[int]ice.Ice{0: {Conc: 9}, 2: {Thick: 51}, 3: {}} {
		field := slices.Clone(good)
		field[i] = x
		if is, e := ice.Holds(c, field); is || e != api.OK {
			t.Error(i, is, e)
		}
	}
	wrong := slices.Clone(good)
	wrong[3].Conc = 101
	for i, x := range []struct {
		c     ice.Chart
		field []ice.Ice
		want  api.Errno
	}{
		{c, nil, api.ErrArg},
		{c, good[:3], api.ErrArg},
		{c, append(slices.Clone(good), ice.Ice{}), api.ErrArg},
		{c, wrong, api.ErrIce},
		{c, append(slices.Clone(wrong), ice.Ice{}), api.ErrArg},
		{c, []ice.Ice{{}, {}, {}, {Ridge: -1}}, api.ErrIce},
		{chart(w, w, w, cellWith(0, span(2, 1))), nil, api.ErrIce},
		{chart(w), wrong, api.ErrArg},
		{ice.Chart{}, nil, api.ErrRange},
	} {
		if is, e := ice.Holds(x.c, x.field); is || e != x.want {
			t.Error(i, is, e)
		}
	}
}
