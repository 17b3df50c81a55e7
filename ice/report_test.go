package ice_test

import (
	"slices"
	"testing"

	"polynya/api"
	"polynya/ice"
)

// ofOneCell are the functions that take reports of one cell; they report whether all results but the error are zero.
var ofOneCell = map[string]func(l []ice.Report, m ice.Rates, now int) (bool, api.Errno){
	"Fuse": func(l []ice.Report, m ice.Rates, now int) (bool, api.Errno) {
		c, e := ice.Fuse(l, m, now)
		return c == ice.Cell{}, e
	},
	"Conflicts": func(l []ice.Report, m ice.Rates, now int) (bool, api.Errno) {
		p, e := ice.Conflicts(l, m, now)
		return len(p) == 0, e
	},
	"Trust": func(l []ice.Report, m ice.Rates, now int) (bool, api.Errno) {
		is, c, e := ice.Trust(l, m, now)
		return len(is) == 0 && c == ice.Cell{}, e
	},
	"Blame": func(l []ice.Report, m ice.Rates, now int) (bool, api.Errno) {
		s, e := ice.Blame(l, m, now)
		return len(s) == 0, e
	},
	"Guilt": func(l []ice.Report, m ice.Rates, now int) (bool, api.Errno) {
		g, e := ice.Guilt(l, m, now)
		return len(g) == 0, e
	},
}

// wrong are changes after which a report is not allowed.
func wrong() map[string]func(r *ice.Report) {
	out := map[string]func(r *ice.Report){
		"Id low":      func(r *ice.Report) { r.Id = -1 },
		"Id high":     func(r *ice.Report) { r.Id = 1000001 },
		"Source low":  func(r *ice.Report) { r.Source = 0 },
		"Source high": func(r *ice.Report) { r.Source = 4 },
		"At low":      func(r *ice.Report) { r.At = -1 },
		"At high":     func(r *ice.Report) { r.At = 10001 },
		"X low":       func(r *ice.Report) { r.X = -1 },
		"X high":      func(r *ice.Report) { r.X = 64 },
		"Y low":       func(r *ice.Report) { r.Y = -1 },
		"Y high":      func(r *ice.Report) { r.Y = 64 },
		"Has low":     func(r *ice.Report) { r.Has = 0 },
		"Has high":    func(r *ice.Report) { r.Has = 16 },
		"Has below":   func(r *ice.Report) { r.Has = -1 },
	}
	for q, name := range names {
		for k, s := range []api.Span{span(-1, 1), span(0, most[q]+1), span(2, 1)} {
			out[name+string(rune('0'+k))] = func(r *ice.Report) { r.Has, *spanAt(&r.Cell, q) = r.Has|1<<q, s }
		}
	}
	return out
}

// right are changes after which a report is at a limit.
func right() map[string]func(r *ice.Report) {
	return map[string]func(r *ice.Report){
		"Id low":    func(r *ice.Report) { r.Id = 0 },
		"Id high":   func(r *ice.Report) { r.Id = 1000000 },
		"Satellite": func(r *ice.Report) { r.Source = ice.Satellite },
		"Ship":      func(r *ice.Report) { r.Source = ice.Ship },
		"At low":    func(r *ice.Report) { r.At = 0 },
		"At high":   func(r *ice.Report) { r.At = 10000 },
		"place low": func(r *ice.Report) { r.X, r.Y = 0, 0 },
		"X high":    func(r *ice.Report) { r.X = 63 },
		"Y high":    func(r *ice.Report) { r.Y = 63 },
		"Has high":  func(r *ice.Report) { r.Has, r.Cell = 15, whole() },
		"Has low":   func(r *ice.Report) { r.Has = 1 },
	}
}

// P1.2: what reports tell.

func TestTells(t *testing.T) {
	r := ice.Report{Id: 3, Source: ice.Ship, At: 10, X: 63, Y: 63, Cell: ice.Cell{Conc: span(40, 60), Thick: span(100, 120), Ridge: span(10, 20), Press: span(1, 2)}}
	m := ice.Rates{Up: ice.Ice{Conc: 10, Thick: 25, Ridge: 1, Press: 0}, Down: ice.Ice{Conc: 24, Thick: 0, Ridge: 24, Press: 1}}
	aged := ice.Cell{Conc: span(10, 73), Thick: span(100, 152), Ridge: span(0, 22), Press: span(0, 2)}
	for has := 1; has <= 15; has++ {
		r.Has = has
		then, later := whole(), whole()
		for q := range most {
			if has>>q&1 == 1 {
				*spanAt(&then, q), *spanAt(&later, q) = *spanAt(&r.Cell, q), *spanAt(&aged, q)
			}
		}
		if c, e := ice.Tells(r, m, 10); c != then || e != api.OK {
			t.Error(has, c, e)
		}
		if c, e := ice.Tells(r, m, 40); c != later || e != api.OK {
			t.Error(has, c, e)
		}
	}
}

func TestOnlySpansOfWhatItTellsCount(t *testing.T) {
	for q, name := range names {
		r := report(0, 5, q, span(1, 2))
		for other := range names {
			if other != q {
				*spanAt(&r.Cell, other) = span(1<<63-1, -1<<63)
			}
		}
		if c, e := ice.Tells(r, ice.Rates{}, 5); e != api.OK || c != cellWith(q, span(1, 2)) {
			t.Error(name, c, e)
		}
		for of, f := range ofOneCell {
			if _, e := f([]ice.Report{r}, ice.Rates{}, 5); e != api.OK {
				t.Error(name, of, e)
			}
		}
	}
}

func TestTellsErrors(t *testing.T) {
	good := report(7, 5, 1, span(30, 50))
	late, bad := good, good
	late.At, bad.Id, bad.At = 6, -1, 6
	fast := ice.Rates{Down: iceWith(0, -1)}
	for i, c := range []struct {
		r    ice.Report
		m    ice.Rates
		now  int
		want api.Errno
	}{
		{good, ice.Rates{}, 5, api.OK},
		{good, ice.Rates{}, 10000, api.OK},
		{good, ice.Rates{}, 10001, api.ErrRange},
		{good, ice.Rates{}, -1, api.ErrRange},
		{bad, ice.Rates{}, -1, api.ErrRange},
		{bad, fast, 5, api.ErrRange},
		{late, fast, 5, api.ErrRange},
		{bad, ice.Rates{}, 5, api.ErrIce},
		{late, ice.Rates{}, 5, api.ErrTime},
		{good, ice.Rates{}, 4, api.ErrTime},
	} {
		x, e := ice.Tells(c.r, c.m, c.now)
		if e != c.want || e != api.OK && x != (ice.Cell{}) {
			t.Error(i, x, e)
		}
	}
}

func TestWhatReportsMayBe(t *testing.T) {
	for name, change := range right() {
		r := report(7, 5, 1, span(30, 50))
		change(&r)
		if _, e := ice.Tells(r, ice.Rates{}, 10000); e != api.OK {
			t.Error(name, e)
		}
		for of, f := range ofOneCell {
			if _, e := f([]ice.Report{r}, ice.Rates{}, 10000); e != api.OK {
				t.Error(name, of, e)
			}
		}
	}
	for name, change := range wrong() {
		r := report(7, 5, 1, span(30, 50))
		change(&r)
		if c, e := ice.Tells(r, ice.Rates{}, 10000); c != (ice.Cell{}) || e != api.ErrIce {
			t.Error(name, c, e)
		}
		for of, f := range ofOneCell {
			if zero, e := f([]ice.Report{report(1, 5, 1, span(30, 50)), r}, ice.Rates{}, 10000); !zero || e != api.ErrIce {
				t.Error(name, of, zero, e)
			}
		}
	}
}

func TestErrorsOfReports(t *testing.T) {
	fast := ice.Rates{Up: iceWith(1, 1001)}
	// change turns three reports that agree into the case's.
	for i, c := range []struct {
		change func(l []ice.Report) []ice.Report
		m      ice.Rates
		now    int
		want   api.Errno
	}{
		{func(l []ice.Report) []ice.Report { return l }, ice.Rates{}, 5, api.OK},
		{func(l []ice.Report) []ice.Report { return l }, ice.Rates{}, 10000, api.OK},
		{func(l []ice.Report) []ice.Report { return l }, ice.Rates{}, 10001, api.ErrRange},
		{func(l []ice.Report) []ice.Report { return nil }, ice.Rates{}, -1, api.ErrRange},
		{func(l []ice.Report) []ice.Report { return nil }, fast, 5, api.ErrRange},
		{func(l []ice.Report) []ice.Report { return make([]ice.Report, 13) }, fast, 5, api.ErrRange},
		{func(l []ice.Report) []ice.Report { return make([]ice.Report, 13) }, ice.Rates{}, -1, api.ErrRange},
		{func(l []ice.Report) []ice.Report { return make([]ice.Report, 13) }, ice.Rates{}, 5, api.ErrMany},
		{func(l []ice.Report) []ice.Report { l[0].Has = 0; return l }, ice.Rates{}, -1, api.ErrRange},
		{func(l []ice.Report) []ice.Report { l[2].Has = 0; return l }, ice.Rates{}, 5, api.ErrIce},
		{func(l []ice.Report) []ice.Report { l[2].Id = 0; return l }, ice.Rates{}, 5, api.ErrTwice},
		{func(l []ice.Report) []ice.Report { l[2].Id = 1; return l }, ice.Rates{}, 5, api.ErrTwice},
		{func(l []ice.Report) []ice.Report { l[2].X = 3; return l }, ice.Rates{}, 5, api.ErrArg},
		{func(l []ice.Report) []ice.Report { l[2].Y = 2; return l }, ice.Rates{}, 5, api.ErrArg},
		{func(l []ice.Report) []ice.Report { l[2].X, l[2].Y = 1, 2; return l }, ice.Rates{}, 5, api.ErrArg},
		{func(l []ice.Report) []ice.Report { l[2].At = 6; return l }, ice.Rates{}, 5, api.ErrTime},
		// several of one report
		{func(l []ice.Report) []ice.Report { l[1] = ice.Report{}; return l }, ice.Rates{}, 5, api.ErrIce},
		{func(l []ice.Report) []ice.Report { l[1].Id, l[1].X, l[1].At = 0, 3, 6; return l }, ice.Rates{}, 5, api.ErrTwice},
		{func(l []ice.Report) []ice.Report { l[1].X, l[1].At = 3, 6; return l }, ice.Rates{}, 5, api.ErrArg},
		// of several reports the first one decides
		{func(l []ice.Report) []ice.Report { l[0].At, l[1].Has = 6, 0; return l }, ice.Rates{}, 5, api.ErrTime},
		{func(l []ice.Report) []ice.Report { l[1].X, l[2].Id = 3, 0; return l }, ice.Rates{}, 5, api.ErrArg},
		{func(l []ice.Report) []ice.Report { l[1].At, l[2].X = 6, 3; return l }, ice.Rates{}, 5, api.ErrTime},
		{func(l []ice.Report) []ice.Report { l[1].Id, l[2].Has = 0, 0; return l }, ice.Rates{}, 5, api.ErrTwice},
	} {
		for of, f := range ofOneCell {
			l := c.change(thick(span(30, 50), span(45, 70), span(48, 80)))
			if zero, e := f(l, c.m, c.now); e != c.want || e != api.OK && !zero {
				t.Error(i, of, zero, e)
			}
		}
	}
}

func TestAsManyReportsAsThereMayBe(t *testing.T) {
	var l []ice.Report
	for i := range 13 {
		l = append(l, report(i, 5, 1, span(i, 20)))
	}
	for of, f := range ofOneCell {
		if _, e := f(l[:12], ice.Rates{}, 5); e != api.OK {
			t.Error(of, e)
		}
		if zero, e := f(l, ice.Rates{}, 5); !zero || e != api.ErrMany {
			t.Error(of, zero, e)
		}
	}
	if c, e := ice.Fuse(l[:12], ice.Rates{}, 5); e != api.OK || c != cellWith(1, span(11, 20)) {
		t.Error(c, e)
	}
}

func TestFuse(t *testing.T) {
	if c, e := ice.Fuse(nil, ice.Rates{}, 4); e != api.OK || c != whole() {
		t.Error(c, e)
	}
	// The first example of DOC.md.
	l := thick(span(10, 20), span(15, 40), span(30, 40))
	if c, e := ice.Fuse(l[:2], ice.Rates{}, 5); e != api.OK || c != cellWith(1, span(15, 20)) {
		t.Error(c, e)
	}
	if c, e := ice.Fuse(l, ice.Rates{}, 5); e != api.ErrEmpty || c != (ice.Cell{}) {
		t.Error(c, e)
	}
	if p, e := ice.Conflicts(l, ice.Rates{}, 5); e != api.OK || !slices.Equal(p, [][2]int{{0, 2}}) {
		t.Error(p, e)
	}
	// Reports of several hours and quantities.
	l = []ice.Report{report(0, 2, 0, span(40, 60)), report(1, 14, 0, span(70, 80)), report(2, 26, 3, span(1, 1))}
	m := ice.Rates{Up: ice.Ice{Conc: 10}, Down: ice.Ice{Conc: 6, Press: 24}}
	if c, e := ice.Fuse(l, m, 26); e != api.OK || c != (ice.Cell{Conc: span(67, 70), Thick: span(0, 400), Ridge: span(0, 100), Press: span(1, 1)}) {
		t.Error(c, e)
	}
	m.Down.Conc, m.Up.Conc = 0, 9
	if c, e := ice.Fuse(l, m, 26); e != api.ErrEmpty || c != (ice.Cell{}) {
		t.Error(c, e)
	}
}

// P1.3: contradictions.

func TestContradictionsExample(t *testing.T) {
	l := thick(span(30, 50), span(45, 70), span(60, 80))
	if p, e := ice.Conflicts(l, ice.Rates{}, 5); e != api.OK || !slices.Equal(p, [][2]int{{0, 2}}) {
		t.Error(p, e)
	}
	if is, c, e := ice.Trust(l, ice.Rates{}, 5); e != api.OK || !slices.Equal(is, []bool{true, true, false}) || c != cellWith(1, span(45, 50)) {
		t.Error(is, c, e)
	}
	if s, e := ice.Blame(l, ice.Rates{}, 5); e != api.OK || !sameSets(s, [][]int{{0}, {2}}) {
		t.Error(s, e)
	}
	if g, e := ice.Guilt(l, ice.Rates{}, 5); e != api.OK || !slices.Equal(g, []int{1, 0, 1}) {
		t.Error(g, e)
	}
}

func TestNothingToContradict(t *testing.T) {
	for _, l := range [][]ice.Report{nil, {}, thick(span(30, 50)), thick(span(30, 50), span(50, 60))} {
		fused, _ := ice.Fuse(l, ice.Rates{}, 5)
		if p, e := ice.Conflicts(l, ice.Rates{}, 5); e != api.OK || len(p) != 0 {
			t.Error(p, e)
		}
		if is, c, e := ice.Trust(l, ice.Rates{}, 5); e != api.OK || len(is) != len(l) || slices.Contains(is, false) || c != fused {
			t.Error(is, c, e)
		}
		if s, e := ice.Blame(l, ice.Rates{}, 5); e != api.OK || !sameSets(s, [][]int{{}}) {
			t.Error(s, e)
		}
		if g, e := ice.Guilt(l, ice.Rates{}, 5); e != api.OK || !slices.Equal(g, make([]int, len(l))) {
			t.Error(g, e)
		}
	}
}

func TestContradictionsOfMany(t *testing.T) {
	// 0 and 1 agree, 2 and 3 agree, and 4 agrees with none.
	l := thick(span(0, 10), span(5, 15), span(100, 110), span(105, 115), span(300, 310))
	if p, e := ice.Conflicts(l, ice.Rates{}, 5); e != api.OK || !slices.Equal(p, [][2]int{{0, 2}, {0, 3}, {0, 4}, {1, 2}, {1, 3}, {1, 4}, {2, 4}, {3, 4}}) {
		t.Error(p, e)
	}
	if is, c, e := ice.Trust(l, ice.Rates{}, 5); e != api.OK || !slices.Equal(is, []bool{true, true, false, false, false}) || c != cellWith(1, span(5, 10)) {
		t.Error(is, c, e)
	}
	if s, e := ice.Blame(l, ice.Rates{}, 5); e != api.OK || !sameSets(s, [][]int{{0, 1, 4}, {2, 3, 4}}) {
		t.Error(s, e)
	}
	if g, e := ice.Guilt(l, ice.Rates{}, 5); e != api.OK || !slices.Equal(g, []int{1, 1, 1, 1, 2}) {
		t.Error(g, e)
	}
	// Each of the last two agrees with the first one, which nobody blames.
	l = thick(span(0, 400), span(0, 5), span(0, 3), span(6, 9), span(7, 9))
	if s, e := ice.Blame(l, ice.Rates{}, 5); e != api.OK || !sameSets(s, [][]int{{1, 2}, {3, 4}}) {
		t.Error(s, e)
	}
	if g, e := ice.Guilt(l, ice.Rates{}, 5); e != api.OK || !slices.Equal(g, []int{0, 1, 1, 1, 1}) {
		t.Error(g, e)
	}
}

func TestTwelveInPairs(t *testing.T) {
	// Twelve that are all in conflict: each set of eleven is blamed.
	var l []ice.Report
	for i := range 12 {
		l = append(l, report(i, 5, 1, span(10*i, 10*i+9)))
	}
	is, c, e := ice.Trust(l, ice.Rates{}, 5)
	if e != api.OK || len(is) != 12 || !is[0] || slices.Contains(is[1:], true) || c != cellWith(1, span(0, 9)) {
		t.Error(is, c, e)
	}
	s, e := ice.Blame(l, ice.Rates{}, 5)
	if e != api.OK || len(s) != 12 || !slices.Equal(s[0], []int{0, 1, 2, 3, 4, 5, 6, 7, 8, 9, 10}) || !slices.Equal(s[11], []int{1, 2, 3, 4, 5, 6, 7, 8, 9, 10, 11}) {
		t.Error(s, e)
	}
	if p, e := ice.Conflicts(l, ice.Rates{}, 5); e != api.OK || len(p) != 66 || p[65] != [2]int{10, 11} {
		t.Error(p, e)
	}
}

func TestContradictionsEndAsReportsAge(t *testing.T) {
	l := thick(span(30, 50), span(60, 80))
	m := ice.Rates{Up: ice.Ice{Thick: 5}, Down: ice.Ice{Thick: 5}}
	for now, want := range map[int]int{5: 1, 24: 1, 25: 0, 29: 0, 10000: 0} {
		if p, e := ice.Conflicts(l, m, now); e != api.OK || len(p) != want {
			t.Error(now, p, e)
		}
		if is, _, e := ice.Trust(l, m, now); e != api.OK || !slices.Equal(is, []bool{true, want == 0}) {
			t.Error(now, is, e)
		}
	}
}

func TestContradictionsOfAnyReports(t *testing.T) {
	r := random()
	for k := range 400 {
		now := r.IntN(60)
		l, m := anyReports(r, r.IntN(9), now), anyRates(r, 30)
		if k%40 == 0 {
			l = anyReports(r, 12, now)
		}
		trusted, cell, blamed := contradictions(l, m, now)
		if is, c, e := ice.Trust(l, m, now); e != api.OK || !slices.Equal(is, trusted) || c != cell {
			t.Fatal(l, m, now, is, c, e)
		}
		if s, e := ice.Blame(l, m, now); e != api.OK || !sameSets(s, blamed) {
			t.Fatal(l, m, now, s, e)
		}
		g, e := ice.Guilt(l, m, now)
		if e != api.OK || len(g) != len(l) {
			t.Fatal(l, m, now, g, e)
		}
		for i := range l {
			in := func(s []int) bool { return slices.Contains(s, i) }
			want := 0
			if slices.ContainsFunc(blamed, in) {
				want = 1
			}
			if !slices.ContainsFunc(blamed, func(s []int) bool { return !in(s) }) {
				want = 2
			}
			if g[i] != want {
				t.Fatal(l, m, now, i, g)
			}
		}
	}
}

func TestConflictsOfAnyReports(t *testing.T) {
	r := random()
	for range 400 {
		now := r.IntN(60)
		l, m := anyReports(r, r.IntN(13), now), anyRates(r, 30)
		var want [][2]int
		for i := range l {
			for k := i + 1; k < len(l); k++ {
				if _, agree := together([]ice.Cell{toldBy(l[i], m, now), toldBy(l[k], m, now)}); !agree {
					want = append(want, [2]int{i, k})
				}
			}
		}
		if p, e := ice.Conflicts(l, m, now); e != api.OK || !slices.Equal(p, want) {
			t.Fatal(l, m, now, p, e)
		}
		for _, x := range l {
			if c, e := ice.Tells(x, m, now); e != api.OK || c != toldBy(x, m, now) {
				t.Fatal(x, m, now, c, e)
			}
		}
	}
}
