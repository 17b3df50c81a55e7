package ice_test

import (
	"slices"
	"testing"

	"polynya/api"
	"polynya/ice"
)

func TestConstants(t *testing.T) {
	got := []int{ice.Satellite, ice.Buoy, ice.Ship, ice.MostConc, ice.MostThick, ice.MostRidge, ice.MostPress, ice.MaxRate, ice.MaxReports, ice.MaxAll, ice.MaxCourse}
	if !slices.Equal(got, []int{1, 2, 3, 100, 400, 100, 3, 1000, 12, 400, 400}) {
		t.Error(got)
	}
}

// P1.1: the whole cell, and what is allowed.

func TestWhole(t *testing.T) {
	if c := ice.Whole(); c != whole() {
		t.Error(c)
	}
}

func TestCheckIce(t *testing.T) {
	for q, name := range names {
		for n, want := range map[int]api.Errno{0: api.OK, 1: api.OK, most[q]: api.OK, -1: api.ErrIce, most[q] + 1: api.ErrIce, -1 << 63: api.ErrIce, 1<<63 - 1: api.ErrIce} {
			if e := ice.CheckIce(iceWith(q, n)); e != want {
				t.Error(name, n, e)
			}
		}
	}
	if e := ice.CheckIce(ice.Ice{Conc: 100, Thick: 400, Ridge: 100, Press: 3}); e != api.OK {
		t.Error(e)
	}
}

func TestCheckCell(t *testing.T) {
	if e := ice.CheckCell(ice.Cell{}); e != api.OK {
		t.Error(e)
	}
	for q, name := range names {
		m := most[q]
		for _, s := range []api.Span{span(0, 0), span(0, m), span(m, m), span(1, 2), span(2, 2)} {
			if e := ice.CheckCell(cellWith(q, s)); e != api.OK {
				t.Error(name, s, e)
			}
		}
		for _, s := range []api.Span{span(-1, 0), span(-1, -1), span(0, m+1), span(m+1, m+1), span(2, 1), span(m, 0), span(1<<63-1, -1<<63), span(-1<<63, 1<<63-1)} {
			if e := ice.CheckCell(cellWith(q, s)); e != api.ErrIce {
				t.Error(name, s, e)
			}
		}
	}
}

func TestCheckRates(t *testing.T) {
	for q, name := range names {
		for n, want := range map[int]api.Errno{0: api.OK, 1000: api.OK, -1: api.ErrRange, 1001: api.ErrRange, -1 << 63: api.ErrRange, 1<<63 - 1: api.ErrRange} {
			if e := ice.CheckRates(ice.Rates{Up: iceWith(q, n)}); e != want {
				t.Error("Up", name, n, e)
			}
			if e := ice.CheckRates(ice.Rates{Down: iceWith(q, n)}); e != want {
				t.Error("Down", name, n, e)
			}
		}
	}
}

// P1.1: what cells have, and what becomes of two of them.

func TestHas(t *testing.T) {
	c := ice.Cell{Conc: span(20, 30), Thick: span(100, 110), Ridge: span(5, 9), Press: span(1, 2)}
	in := ice.Ice{Conc: 25, Thick: 105, Ridge: 7, Press: 1}
	for q, name := range names {
		s := *spanAt(&c, q)
		for n, want := range map[int]bool{s.Lo: true, s.Hi: true, s.Lo - 1: false, s.Hi + 1: false} {
			x := in
			*numberAt(&x, q) = n
			if is, e := ice.Has(c, x); is != want || e != api.OK {
				t.Error(name, n, is, e)
			}
		}
		bad := c
		*spanAt(&bad, q) = span(2, 1)
		if is, e := ice.Has(bad, in); is || e != api.ErrIce {
			t.Error(name, is, e)
		}
		if is, e := ice.Has(whole(), iceWith(q, most[q]+1)); is || e != api.ErrIce {
			t.Error(name, is, e)
		}
		if is, e := ice.Has(whole(), iceWith(q, -1)); is || e != api.ErrIce {
			t.Error(name, is, e)
		}
	}
}

func TestInside(t *testing.T) {
	outer := ice.Cell{Conc: span(20, 30), Thick: span(100, 110), Ridge: span(5, 9), Press: span(1, 2)}
	if is, e := ice.Inside(outer, outer); !is || e != api.OK {
		t.Error(is, e)
	}
	for q, name := range names {
		s := *spanAt(&outer, q)
		for _, c := range []struct {
			s    api.Span
			want bool
		}{{span(s.Lo, s.Lo), true}, {span(s.Hi, s.Hi), true}, {span(s.Lo-1, s.Hi), false}, {span(s.Lo, s.Hi+1), false}, {span(s.Lo-1, s.Lo-1), false}, {span(s.Hi+1, s.Hi+1), false}} {
			inner := outer
			*spanAt(&inner, q) = c.s
			if is, e := ice.Inside(inner, outer); is != c.want || e != api.OK {
				t.Error(name, c.s, is, e)
			}
		}
	}
	if is, e := ice.Inside(whole(), outer); is || e != api.OK {
		t.Error(is, e)
	}
}

func TestMeetAndHull(t *testing.T) {
	for q, name := range names {
		for _, c := range []struct{ a, b, meet, hull api.Span }{
			{span(0, 2), span(1, 3), span(1, 2), span(0, 3)},
			{span(0, 1), span(1, 3), span(1, 1), span(0, 3)},
			{span(0, 3), span(1, 2), span(1, 2), span(0, 3)},
			{span(2, 2), span(2, 2), span(2, 2), span(2, 2)},
		} {
			a, b := cellWith(q, c.a), cellWith(q, c.b)
			for _, p := range [][2]ice.Cell{{a, b}, {b, a}} {
				if x, e := ice.Meet(p[0], p[1]); x != cellWith(q, c.meet) || e != api.OK {
					t.Error(name, p, x, e)
				}
				if x, e := ice.Hull(p[0], p[1]); x != cellWith(q, c.hull) || e != api.OK {
					t.Error(name, p, x, e)
				}
			}
		}
		a, b := cellWith(q, span(0, 1)), cellWith(q, span(2, 3))
		for _, p := range [][2]ice.Cell{{a, b}, {b, a}} {
			if x, e := ice.Meet(p[0], p[1]); x != (ice.Cell{}) || e != api.ErrEmpty {
				t.Error(name, p, x, e)
			}
			if x, e := ice.Hull(p[0], p[1]); x != cellWith(q, span(0, 3)) || e != api.OK {
				t.Error(name, p, x, e)
			}
		}
	}
}

func TestErrorsOfTwoCells(t *testing.T) {
	for q, name := range names {
		// The spans have nothing in common either: that comes later.
		right, wrong := cellWith(q, span(0, 0)), cellWith(q, span(2, 1))
		for _, p := range [][2]ice.Cell{{right, wrong}, {wrong, right}, {wrong, wrong}} {
			if is, e := ice.Inside(p[0], p[1]); is || e != api.ErrIce {
				t.Error(name, is, e)
			}
			if x, e := ice.Meet(p[0], p[1]); x != (ice.Cell{}) || e != api.ErrIce {
				t.Error(name, x, e)
			}
			if x, e := ice.Hull(p[0], p[1]); x != (ice.Cell{}) || e != api.ErrIce {
				t.Error(name, x, e)
			}
		}
	}
}

// P1.1: ageing.

func TestAgeExample(t *testing.T) {
	m := ice.Rates{Up: ice.Ice{Conc: 10}, Down: ice.Ice{Conc: 24}}
	if c, e := ice.Age(cellWith(0, span(40, 60)), m, 30); e != api.OK || c != cellWith(0, span(10, 73)) {
		t.Error(c, e)
	}
}

func TestAgeRoundsUp(t *testing.T) {
	for q, name := range names {
		for _, c := range []struct{ rate, hours, want int }{{0, 10000, 0}, {1, 0, 0}, {1, 1, 1}, {1, 24, 1}, {1, 25, 2}, {24, 1, 1}, {25, 1, 2}, {1000, 0, 0}, {23, 1, 1}, {12, 2, 1}, {13, 2, 2}} {
			at := most[q] / 2
			up, e := ice.Age(cellWith(q, span(at, at)), ice.Rates{Up: iceWith(q, c.rate)}, c.hours)
			if e != api.OK || up != cellWith(q, span(at, min(at+c.want, most[q]))) {
				t.Error(name, c, up, e)
			}
			down, e := ice.Age(cellWith(q, span(at, at)), ice.Rates{Down: iceWith(q, c.rate)}, c.hours)
			if e != api.OK || down != cellWith(q, span(max(at-c.want, 0), at)) {
				t.Error(name, c, down, e)
			}
		}
	}
}

func TestAgeCuts(t *testing.T) {
	for q, name := range names {
		m := ice.Rates{Up: iceWith(q, 24), Down: iceWith(q, 24)}
		for _, c := range []struct {
			hours    int
			from, to api.Span
		}{{1, span(1, most[q]-1), span(0, most[q])}, {2, span(1, most[q]-1), span(0, most[q])}, {1, span(0, most[q]), span(0, most[q])}, {10000, span(1, 1), span(0, most[q])}} {
			if x, e := ice.Age(cellWith(q, c.from), m, c.hours); e != api.OK || x != cellWith(q, c.to) {
				t.Error(name, c, x, e)
			}
		}
	}
	fast := ice.Rates{Up: ice.Ice{Conc: 1000, Thick: 1000, Ridge: 1000, Press: 1000}, Down: ice.Ice{Conc: 1000, Thick: 1000, Ridge: 1000, Press: 1000}}
	if x, e := ice.Age(ice.Cell{}, fast, 10000); e != api.OK || x != whole() {
		t.Error(x, e)
	}
}

func TestAgeErrors(t *testing.T) {
	bad, fast := cellWith(0, span(2, 1)), ice.Rates{Down: iceWith(3, 1001)}
	for i, c := range []struct {
		c     ice.Cell
		m     ice.Rates
		hours int
		want  api.Errno
	}{
		{whole(), ice.Rates{}, 0, api.OK},
		{whole(), ice.Rates{}, 10000, api.OK},
		{whole(), ice.Rates{}, -1, api.ErrRange},
		{whole(), ice.Rates{}, 10001, api.ErrRange},
		{whole(), ice.Rates{}, 1<<63 - 1, api.ErrRange},
		{whole(), fast, 1, api.ErrRange},
		{bad, ice.Rates{}, 1, api.ErrIce},
		{bad, fast, -1, api.ErrIce},
	} {
		x, e := ice.Age(c.c, c.m, c.hours)
		if e != c.want || e != api.OK && x != (ice.Cell{}) {
			t.Error(i, x, e)
		}
	}
}

// P1.1: courses.

func TestAllowed(t *testing.T) {
	for q, name := range names {
		course := func(l []int) []ice.Ice {
			var out []ice.Ice
			for _, n := range l {
				x := ice.Ice{Conc: 50, Thick: 50, Ridge: 50, Press: 1}
				*numberAt(&x, q) = n
				out = append(out, x)
			}
			return out
		}
		// In an hour at most 1 up and 0 down, in two hours and in three 1 up; in 24 hours 12.
		m := ice.Rates{Up: iceWith(q, 8)}
		for i, c := range []struct {
			l    []int
			want bool
		}{{nil, true}, {[]int{2}, true}, {[]int{1, 2}, true}, {[]int{1, 3}, false}, {[]int{1, 1, 2}, true}, {[]int{1, 2, 3}, false}, {[]int{1, 2, 2, 3}, false}, {[]int{1, 2, 2, 2, 3}, true}, {[]int{2, 1}, false}, {[]int{0, 0, 0, 1}, true}} {
			if is, e := ice.Allowed(course(c.l), m); is != c.want || e != api.OK {
				t.Error(name, "up", i, is, e)
			}
			back := slices.Clone(c.l)
			slices.Reverse(back)
			if is, e := ice.Allowed(course(back), ice.Rates{Down: m.Up}); is != c.want || e != api.OK {
				t.Error(name, "down", i, is, e)
			}
		}
	}
}

func TestAllowedErrors(t *testing.T) {
	long := make([]ice.Ice, 401)
	wrong := []ice.Ice{{}, {Press: 4}}
	fast := ice.Rates{Up: iceWith(2, 1001)}
	for i, c := range []struct {
		l    []ice.Ice
		m    ice.Rates
		want api.Errno
	}{
		{long[:400], ice.Rates{}, api.OK},
		{long, ice.Rates{}, api.ErrMany},
		{append(slices.Clone(long), wrong...), fast, api.ErrMany},
		{wrong, ice.Rates{}, api.ErrIce},
		{wrong, fast, api.ErrIce},
		{wrong[:1], fast, api.ErrRange},
		{nil, fast, api.ErrRange},
	} {
		is, e := ice.Allowed(c.l, c.m)
		if e != c.want || is != (e == api.OK) {
			t.Error(i, is, e)
		}
	}
	far := append(slices.Clone(long[:399]), ice.Ice{Thick: 17})
	if is, e := ice.Allowed(far, ice.Rates{Up: ice.Ice{Thick: 400}}); !is || e != api.OK {
		t.Error(is, e)
	}
	far[0].Thick = 18 // less by one at the end of the course, with no rate down
	if is, e := ice.Allowed(far, ice.Rates{Up: ice.Ice{Thick: 400}}); is || e != api.OK {
		t.Error(is, e)
	}
}
