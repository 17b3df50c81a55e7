package ice_test

import (
	"reflect"
	"testing"

	"polynya/api"
	"polynya/ice"
)

// R4: results are new memory, and no argument is changed.

func TestArgumentsStay(t *testing.T) {
	r := random()
	l, m := anyReports(r, 12, 20), anyRates(r, 20)
	a, _, _ := ice.Draw(8, 8, l, m, 20)
	b, _ := ice.Blank(8, 8, 20)
	course := anyCourse(r, m, 64)
	type all struct {
		L      []ice.Report
		A, B   ice.Chart
		Course []ice.Ice
	}
	before := all{append([]ice.Report{}, l...), a, b, append([]ice.Ice{}, course...)}
	before.A.Cells = append([]ice.Cell{}, a.Cells...)
	before.B.Cells = append([]ice.Cell{}, b.Cells...)
	callAll(l, m, 20, a, b, course)
	if !reflect.DeepEqual(before, all{l, a, b, course}) {
		t.Error("an argument has changed")
	}
}

// callAll calls all functions that take lists.
func callAll(l []ice.Report, m ice.Rates, now int, a, b ice.Chart, field []ice.Ice) {
	for _, f := range ofOneCell {
		f(l, m, now)
	}
	ice.Draw(a.W, a.H, l, m, now)
	ice.Allowed(field, m)
	ice.CheckChart(a)
	ice.AgeChart(a, m, now)
	ice.MeetCharts(a, b)
	ice.HullCharts(a, b)
	ice.InsideChart(a, b)
	ice.Holds(a, field)
}

func TestResultsAreNewMemory(t *testing.T) {
	w := whole()
	a, b := chart(w, w, w, w), chart(w, w, w, w)
	meet, _ := ice.MeetCharts(a, b)
	hull, _ := ice.HullCharts(a, b)
	aged, _ := ice.AgeChart(a, ice.Rates{}, 0)
	blank, _ := ice.Blank(2, 2, 5)
	drawn, _, _ := ice.Draw(2, 2, nil, ice.Rates{}, 5)
	charts := []ice.Chart{a, b, meet, hull, aged, blank, drawn}
	for i, c := range charts {
		c.Cells[i%4].Conc = span(i, i)
		c.Cells[i%4].Thick = span(i, i)
	}
	for i, c := range charts {
		for k, x := range c.Cells {
			want := w
			if k == i%4 {
				want.Conc, want.Thick = span(i, i), span(i, i)
			}
			if x != want {
				t.Error(i, k, x)
			}
		}
	}
}

func TestBlamedSetsAreApart(t *testing.T) {
	l := thick(span(0, 10), span(5, 15), span(100, 110), span(105, 115), span(200, 210), span(205, 215))
	s, e := ice.Blame(l, ice.Rates{}, 5)
	if e != api.OK || !sameSets(s, [][]int{{0, 1, 2, 3}, {0, 1, 4, 5}, {2, 3, 4, 5}}) {
		t.Fatal(s, e)
	}
	s[0][3] = 99
	_ = append(s[0], 98)
	_ = append(s[1], 97)
	if !sameSets(s, [][]int{{0, 1, 2, 99}, {0, 1, 4, 5}, {2, 3, 4, 5}}) {
		t.Error(s)
	}
	is, _, _ := ice.Trust(l, ice.Rates{}, 5)
	is[0] = false
	if again, _, _ := ice.Trust(l, ice.Rates{}, 5); !again[0] {
		t.Error(again)
	}
}

// R3: a nil list and an empty list are the same value.
func TestNilAndEmpty(t *testing.T) {
	for of, f := range ofOneCell {
		if _, e := f([]ice.Report{}, ice.Rates{}, 5); e != api.OK {
			t.Error(of, e)
		}
	}
	c, left, e := ice.Draw(2, 2, []ice.Report{}, ice.Rates{}, 5)
	d, also, f := ice.Draw(2, 2, nil, ice.Rates{}, 5)
	if !sameChart(c, d) || len(left) != 0 || len(also) != 0 || e != api.OK || f != api.OK {
		t.Error(c, d, left, also, e, f)
	}
	if is, e := ice.Allowed([]ice.Ice{}, ice.Rates{}); !is || e != api.OK {
		t.Error(is, e)
	}
}

// P9: every function terminates and does not panic, whatever it gets.
func TestTermination(t *testing.T) {
	r := random()
	n := func() int {
		if r.IntN(4) > 0 {
			return r.IntN(3)
		}
		return wild[r.IntN(len(wild))]
	}
	x := func() ice.Ice { return ice.Ice{Conc: n(), Thick: n(), Ridge: n(), Press: n()} }
	s := func() api.Span { return span(n(), n()) }
	c := func() ice.Cell { return ice.Cell{Conc: s(), Thick: s(), Ridge: s(), Press: s()} }
	rep := func() ice.Report {
		return ice.Report{Id: n(), Source: n(), At: n(), X: n(), Y: n(), Has: n(), Cell: c()}
	}
	for range 20000 {
		m, now := ice.Rates{Up: x(), Down: x()}, n()
		if r.IntN(2) == 0 {
			m = ice.Rates{}
		}
		var l []ice.Report
		var field []ice.Ice
		var cells []ice.Cell
		for range r.IntN(6) {
			l, field, cells = append(l, rep()), append(field, x()), append(cells, c())
		}
		a, b := ice.Chart{W: n(), H: n(), Hour: n(), Cells: cells}, ice.Chart{W: n(), H: n(), Hour: n(), Cells: cells}
		callAll(l, m, now, a, b, field)
		ice.Draw(n(), n(), l, m, now)
		ice.Blank(n(), n(), n())
		ice.AgeChart(a, m, n())
		ice.Tells(rep(), m, now)
		ice.Age(c(), m, n())
		ice.CheckIce(x())
		ice.CheckCell(c())
		ice.CheckRates(m)
		ice.Has(c(), x())
		ice.Inside(c(), c())
		ice.Meet(c(), c())
		ice.Hull(c(), c())
	}
}
