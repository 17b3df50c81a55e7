package convoy_test

import (
	"reflect"
	"slices"
	"testing"

	"polynya/api"
	"polynya/convoy"
	"polynya/hull"
	"polynya/ice"
)

// nothing reports whether results are zero values.
func nothing(l []any) bool {
	return !slices.ContainsFunc(l, func(x any) bool { return !reflect.ValueOf(x).IsZero() })
}

// R1: of several errors the one that is named first. R2: with an error, there is no other result.
func TestOrderOfErrors(t *testing.T) {
	many, noClass := lead(7), changed(func(c *convoy.Convoy) { c.Breaker.Ship.Class, c.Ships[1].Ship.Power, c.Clear = 7, 0, -1 })
	noHull, noMember := changed(func(c *convoy.Convoy) { c.Ships[0].Ship.Ice = nil }), changed(func(c *convoy.Convoy) { c.Ships[1].Length = 9 })
	noSpace := changed(func(c *convoy.Convoy) { c.Close[1] = 61 })
	right, wrong, beset := member(), like(func(m *convoy.Member) { m.Delay = -1 }), like(func(m *convoy.Member) { m.Ship.Ice = nil })
	noCell := ice.Cell{Thick: span(2, 1)}
	for _, f := range faces() {
		for i, c := range []struct {
			does bool
			c    convoy.Convoy
			m    convoy.Member
			cell ice.Cell
			v    int
			e    api.Errno
		}{
			{f.convoy, many, wrong, noCell, -1, api.ErrMany},
			{f.convoy, noClass, wrong, noCell, 251, api.ErrClass},
			{f.convoy, noHull, wrong, noCell, -1, api.ErrHull},
			{f.convoy, noMember, beset, noCell, 251, api.ErrConvoy},
			{f.convoy, noSpace, beset, noCell, 251, api.ErrSpace},
			{f.member, lead(2), wrong, noCell, -1, api.ErrConvoy},
			{f.member, lead(2), beset, noCell, 251, api.ErrHull},
			{f.cell, lead(2), right, noCell, -1, api.ErrIce},
			{f.cell, lead(2), right, level(0, 401), 251, api.ErrIce},
			{f.atSpeed, lead(2), right, level(400, 400), -1, api.ErrRange},
			{f.atSpeed, lead(2), right, level(400, 400), 251, api.ErrRange},
			{f.atSpeed, lead(2), right, level(400, 400), -1 << 63, api.ErrRange},
			{f.atSpeed, lead(2), right, level(400, 400), 1<<63 - 1, api.ErrRange},
		} {
			if l, e := f.call(c.c, c.m, c.cell, c.v); c.does && (!nothing(l) || e != c.e) {
				t.Error(f.name, i, l, e)
			}
		}
	}
}

// limits are the numbers of a cell, with their limits.
var limits = []struct {
	name string
	in   func(c *ice.Cell) *api.Span
	most int
}{
	{"Conc", func(c *ice.Cell) *api.Span { return &c.Conc }, 100},
	{"Thick", func(c *ice.Cell) *api.Span { return &c.Thick }, 400},
	{"Ridge", func(c *ice.Cell) *api.Span { return &c.Ridge }, 100},
	{"Press", func(c *ice.Cell) *api.Span { return &c.Press }, 3},
}

// Every function that takes a cell examines all of it.
func TestCells(t *testing.T) {
	for _, f := range faces() {
		for _, q := range limits {
			for _, s := range []struct {
				span api.Span
				want bool
			}{{span(0, q.most), true}, {sure(q.most), true}, {span(-1, 0), false}, {span(0, q.most+1), false}, {span(1, 0), false}} {
				var cell ice.Cell
				*q.in(&cell) = s.span
				if _, e := f.call(lead(1), member(), cell, 100); f.cell && e == api.ErrIce == s.want {
					t.Error(f.name, q.name, s.span, e)
				}
			}
		}
	}
}

// given are arguments of functions.
type given struct {
	C                   convoy.Convoy
	M                   convoy.Member
	Cell                ice.Cell
	V, Press, At, Fails int
	Order, Gaps, Went   []int
	Parts               []hull.Part
}

// callAll calls all functions, and returns their results, a nil list as an empty one.
func callAll(g given) []any {
	check := convoy.Check(g.C)
	down, up, e1 := convoy.Way(g.V, g.At)
	halt, e2 := convoy.Halt(g.M, g.V)
	gaps, e3 := convoy.Gaps(g.C, g.V)
	tail, e4 := convoy.Tail(g.C, g.V)
	open, e5 := convoy.Open(g.C, g.V, g.Press)
	holds, e6 := convoy.Holds(g.C, g.Cell, g.V)
	speeds, e7 := convoy.Speeds(g.C, g.Cell)
	fastest, e8 := convoy.Fastest(g.C, g.Cell)
	ordered, e9 := convoy.Ordered(g.C, g.Order)
	best, v, e10 := convoy.Best(g.C, g.Cell)
	joined, e11 := convoy.Join(g.C, g.M, g.At)
	left, e12 := convoy.Leave(g.C, g.At)
	split, e13 := convoy.Split(g.C, g.Cell)
	rest, e14 := convoy.Rest(g.C, g.V, g.Gaps, g.Fails, g.Went)
	leg, time, e15 := convoy.Leg(g.C, g.Parts)
	lists := [][]int{gaps, best, split, rest, leg}
	for i, l := range lists {
		if len(l) == 0 {
			lists[i] = nil
		}
	}
	if len(speeds) == 0 {
		speeds = nil
	}
	for _, c := range []*convoy.Convoy{&ordered, &joined, &left} {
		if len(c.Ships) == 0 {
			c.Ships = nil
		}
	}
	return []any{
		check, down, up, halt, tail, open, holds, speeds, fastest, ordered, v, joined, left, time, lists,
		[]api.Errno{e1, e2, e3, e4, e5, e6, e7, e8, e9, e10, e11, e12, e13, e14, e15},
	}
}

// some makes arguments that are right.
func some() given {
	c := numbered(3)
	c.Ships[1].Short, c.Close[1] = 300, 30
	return given{
		C: c, M: member(), Cell: level(40, 60), V: 100, Press: 1, At: 1, Fails: 1,
		Order: []int{2, 0, 1}, Gaps: []int{605, 605, 605}, Went: []int{100, 300, 500},
		Parts: []hull.Part{{Cell: level(40, 60), Length: 100}, {Cell: pressed(0, 1), Channel: true, Length: 8}},
	}
}

// R4: no argument is changed, and the same arguments have the same results.
func TestArgumentsStay(t *testing.T) {
	g := some()
	l := callAll(g)
	if !reflect.DeepEqual(g, some()) {
		t.Error("an argument has changed")
	}
	if !reflect.DeepEqual(callAll(g), l) {
		t.Error("another result")
	}
	for i, e := range l[len(l)-1].([]api.Errno) {
		if e != api.OK {
			t.Error(i, e)
		}
	}
}

// Room behind the lists of an argument is not written to.
func TestRoomStays(t *testing.T) {
	g := some()
	ships := append(slices.Clone(g.C.Ships), like(func(m *convoy.Member) { m.Length = 499 }), member())
	g.C.Ships = ships[:3]
	callAll(g)
	if ships[3].Length != 499 || ships[4].Length != 120 {
		t.Error("written behind a list")
	}
}

// spoil changes all that is in the memory of a convoy.
func spoil(c convoy.Convoy) {
	for _, m := range append([]convoy.Member{c.Breaker}, c.Ships...) {
		for _, l := range [][]hull.Point{m.Ship.Thrust, m.Ship.Water, m.Ship.Ice, m.Stop} {
			clear(l[:cap(l)])
		}
	}
	clear(c.Ships[:cap(c.Ships)])
}

// R4: results are new memory, with all curves of all members.
func TestResultsAreNewMemory(t *testing.T) {
	g := some()
	before := callAll(some())
	after := callAll(g)
	for _, i := range []int{9, 11, 12} {
		spoil(after[i].(convoy.Convoy))
	}
	clear(after[7].([]api.Span))
	for _, l := range after[14].([][]int) {
		clear(l[:cap(l)])
	}
	if !reflect.DeepEqual(g, some()) {
		t.Error("a result shares memory")
	}
	if !reflect.DeepEqual(callAll(g), before) {
		t.Error("a result is kept")
	}
}

// Members that share their curves get curves of their own.
func TestConvoysShareNoMemoryWithin(t *testing.T) {
	m := member()
	c := convoy.Convoy{Breaker: m, Ships: []convoy.Member{m, m}, Clear: 50, Close: [4]int{60, 5, 2, 0}}
	ordered, e := convoy.Ordered(c, []int{0, 1})
	joined, f := convoy.Join(c, m, 1)
	left, g := convoy.Leave(c, 1)
	if e != api.OK || f != api.OK || g != api.OK {
		t.Fatal(e, f, g)
	}
	for i, x := range []convoy.Convoy{ordered, joined, left} {
		want := copied(x)
		clear(x.Breaker.Stop)
		clear(x.Breaker.Ship.Thrust)
		clear(x.Breaker.Ship.Water)
		clear(x.Breaker.Ship.Ice)
		if !reflect.DeepEqual(x.Ships, want.Ships) {
			t.Error(i, "a ship shares memory with the Breaker")
		}
		for k := range x.Ships {
			s := &x.Ships[k]
			clear(s.Stop)
			clear(s.Ship.Thrust)
			clear(s.Ship.Water)
			clear(s.Ship.Ice)
			if !reflect.DeepEqual(x.Ships[k+1:], want.Ships[k+1:]) {
				t.Error(i, k, "a ship shares memory with another one")
			}
		}
	}
	if !reflect.DeepEqual(m, member()) {
		t.Error("an argument has changed")
	}
}

// R3: a nil list and an empty list are the same value.
func TestNilAndEmpty(t *testing.T) {
	empty := given{
		C: lead(0), M: member(), Cell: level(40, 60), V: 100, Went: []int{100},
		Order: []int{}, Gaps: []int{}, Parts: []hull.Part{},
	}
	empty.C.Ships = []convoy.Member{}
	none := empty
	none.C.Ships, none.Order, none.Gaps, none.Parts = nil, nil, nil, nil
	if a, b := callAll(none), callAll(empty); !reflect.DeepEqual(a, b) {
		t.Error("nil and empty differ", a, b)
	}
	for i, l := range [][]hull.Point{nil, {}} {
		if _, e := convoy.Halt(like(func(m *convoy.Member) { m.Stop = l }), 9); e != api.ErrConvoy {
			t.Error(i, e)
		}
		if _, e := convoy.Halt(like(func(m *convoy.Member) { m.Ship.Thrust = l }), 9); e != api.ErrHull {
			t.Error(i, e)
		}
	}
	for i, l := range [][]int{nil, {}} {
		if _, e := convoy.Rest(lead(0), 100, l, 0, l); e != api.ErrArg {
			t.Error(i, e)
		}
		if _, e := convoy.Ordered(lead(1), l); e != api.ErrArg {
			t.Error(i, e)
		}
	}
}

// wild are numbers that no limit allows, or few.
var wild = []int{-1 << 63, -1 << 62, -1000000001, -2, -1, 0, 1, 7, 251, 401, 1441, 20001, 100001, 1000001, 1 << 31, 1 << 62, 1<<63 - 1}

// P9: every function terminates and does not panic, whatever it gets.
func TestTermination(t *testing.T) {
	r := random()
	n := func(most int) int {
		if r.IntN(8) > 0 {
			return r.IntN(most)
		}
		return wild[r.IntN(len(wild))]
	}
	numbers := func(most, number int) []int {
		var l []int
		for range number {
			l = append(l, n(most))
		}
		return l
	}
	for range 3000 {
		g := given{
			C: anyConvoy(r, 7), M: anyMember(r), Cell: anyCell(r), V: n(251), Press: n(4), At: n(6), Fails: n(7),
			Order: r.Perm(r.IntN(7)), Gaps: numbers(900, r.IntN(7)), Went: numbers(9, r.IntN(8)),
		}
		m := &g.M
		if k := len(g.C.Ships); k > 0 {
			m = []*convoy.Member{&g.M, &g.C.Breaker, &g.C.Ships[r.IntN(k)]}[r.IntN(3)]
		}
		for range r.IntN(3) {
			switch r.IntN(12) {
			case 0:
				m.Stop = curve(n(2), n(2), n(300), n(900))
			case 1:
				m.Stop = slices.Repeat(m.Stop, r.IntN(3))
			case 2:
				m.Length = n(500)
			case 3:
				m.Delay = n(600)
			case 4:
				m.Short = n(20000)
			case 5:
				m.Ship.Thrust = curve(n(2), n(100), n(200), n(3))
			case 6:
				m.Ship = hull.Ship{}
			case 7:
				g.C.Clear = n(2000)
			case 8:
				g.C.Close[r.IntN(4)] = n(1440)
			case 9:
				g.Cell = ice.Cell{Conc: span(n(100), n(100)), Thick: span(n(100), n(400)), Press: span(n(3), n(4))}
			case 10:
				g.Order = numbers(6, r.IntN(7))
			case 11:
				*m = convoy.Member{}
			}
		}
		for range r.IntN(4) {
			g.Parts = append(g.Parts, hull.Part{Cell: g.Cell, Channel: r.IntN(2) == 0, Length: n(300)})
		}
		callAll(g)
	}
	callAll(given{})
}

// Limits: 6 ships behind a breaker, 100 parts of a leg; the largest numbers that members may have.
func TestLargest(t *testing.T) {
	m := strong()
	m.Stop, m.Length, m.Delay, m.Short = curve(0, 0, 250, 20000, 400, 20000), 500, 600, 0
	c := convoy.Convoy{Breaker: m, Ships: slices.Repeat([]convoy.Member{m}, 6), Clear: 2000, Close: [4]int{1440, 1440, 1440, 1440}}
	far := 7717 + 20000
	if l, e := convoy.Gaps(c, 250); !slices.Equal(l, slices.Repeat([]int{2000 + far}, 6)) || e != api.OK {
		t.Error(l, e)
	}
	if n, e := convoy.Tail(c, 250); n != 6*(2500+far) || e != api.OK {
		t.Error(n, e)
	}
	if l, e := convoy.Rest(c, 250, slices.Repeat([]int{1000000}, 6), 0, []int{far, 0, far, 0, far, 0, far}); !slices.Equal(l, []int{1000000 + far, 1000000 - far, 1000000 + far, 1000000 - far, 1000000 + far, 1000000 - far}) || e != api.OK {
		t.Error(l, e)
	}
	speeds, time, e := convoy.Leg(c, slices.Repeat([]hull.Part{part(ice.Cell{}, 10000)}, 100))
	if !slices.Equal(speeds, slices.Repeat([]int{250}, 100)) || time != 100*2400 || e != api.OK {
		t.Error(speeds, time, e)
	}
	if l, v, e := convoy.Best(c, ice.Cell{}); !slices.Equal(l, []int{0, 1, 2, 3, 4, 5}) || v != 250 || e != api.OK {
		t.Error(l, v, e)
	}
	// All orders of six are tried at all speeds: at none the channel is open.
	c.Close = [4]int{}
	if l, v, e := convoy.Best(c, ice.Cell{}); l != nil || v != 0 || e != api.ErrNone {
		t.Error(l, v, e)
	}
}
