package breaker_test

import (
	"reflect"
	"slices"
	"testing"

	"polynya/api"
	"polynya/breaker"
	"polynya/hull"
	"polynya/ice"
)

// nothing reports whether results are zero values.
func nothing(l []any) bool {
	return !slices.ContainsFunc(l, func(x any) bool { return !reflect.ValueOf(x).IsZero() })
}

// R1: of several errors the one that is named first. R2: with an error, there is no other result.
func TestOrderOfErrors(t *testing.T) {
	many := act(slices.Repeat([]int{9, 9}, 101)...)
	tooMany := make([]breaker.State, 30001)
	noState := breaker.State{}
	for _, f := range faces() {
		for i, c := range []struct {
			does bool
			g    given
			want api.Errno
		}{
			{true, given{A: breaker.Area{Limit: -1}, S: noState, L: many, List: tooMany}, api.ErrBreaker},
			{true, given{M: machine(), A: breaker.Area{Limit: -1}, S: noState, L: many, List: tooMany}, api.ErrMany},
			{true, given{M: machine(), A: breaker.Area{Hours: square(1), Press: []int{4}}, S: noState, L: many, List: tooMany}, api.ErrArg},
			{true, given{M: machine(), A: breaker.Area{Hours: square(1), Press: []int{0}, Limit: 61}, S: noState, L: many, List: tooMany}, api.ErrArg},
			{f.one, given{M: machine(), A: wide(), S: noState, T: start(0), L: many, List: tooMany}, api.ErrState},
			{f.one, given{M: machine(), A: wide(), S: start(61), T: start(0), L: many, List: tooMany}, api.ErrState},
			{f.other, given{M: machine(), A: wide(), S: start(0), T: noState}, api.ErrState},
			{f.other, given{M: machine(), A: wide(), S: start(0), T: start(-1)}, api.ErrState},
			{f.programs, given{M: machine(), A: wide(), S: start(60), L: many}, api.ErrMany},
		} {
			if l, e := f.call(c.g); c.does && (!nothing(l) || e != c.want) {
				t.Error(f.name, i, l, e)
			}
		}
	}
}

// Every function that takes a machine examines all of it and of the area, and every one that takes a state all of this.
func TestAllIsExamined(t *testing.T) {
	for _, f := range faces() {
		for _, b := range numbers() {
			for _, n := range []int{b.lo - 1, b.hi + 1} {
				g := given{M: machine(), A: wide(), S: start(60), T: start(60), X: breaker.Action{Kind: breaker.Wait}}
				*b.in(&g.M, &g.A) = n
				if l, e := f.call(g); !nothing(l) || e != b.e {
					t.Error(f.name, b.name, n, l, e)
				}
			}
		}
		for i, s := range []breaker.State{
			with(func(s *breaker.State) { s.Hour = 61 }), with(func(s *breaker.State) { s.Site = 3 }), with(func(s *breaker.State) { s.Fuel = -1 }),
			with(func(s *breaker.State) { s.Awake = 25 }), with(func(s *breaker.State) { s.Worn = 31 }), with(func(s *breaker.State) { s.Notch = 1 }),
			with(func(s *breaker.State) { s.Cases[1] = 1 }),
		} {
			if l, e := f.call(given{M: machine(), A: wide(), S: s, T: start(0)}); f.one && (!nothing(l) || e != api.ErrState) {
				t.Error(f.name, i, l, e)
			}
			if l, e := f.call(given{M: machine(), A: wide(), S: start(0), T: s}); f.other && (!nothing(l) || e != api.ErrState) {
				t.Error(f.name, i, "the other state", l, e)
			}
		}
	}
}

// callAll calls all functions, and returns their results, a nil list as an empty one.
func callAll(g given) []any {
	var l []any
	for _, f := range faces() {
		results, e := f.call(g)
		l = append(append(l, results...), e)
	}
	calm, e := breaker.Calm(g.Ship, g.Cell)
	table, f := breaker.Table(g.Ship, g.Passages)
	l = append(l, calm, e, table, f)
	for i, x := range l {
		if v := reflect.ValueOf(x); v.Kind() == reflect.Slice && v.Len() == 0 {
			l[i] = nil
		}
	}
	return l
}

// some makes arguments that are right.
func some() given {
	m, a := machine(), wide()
	a.Limit = 30
	l := act(breaker.Go, 1, breaker.Wait, 0, breaker.Wait, 0, breaker.Cut, 0, breaker.Go, 0)
	front, _ := breaker.Front(m, a, start(60))
	return given{
		M: m, A: a, S: start(60), T: start(50), X: breaker.Action{Kind: breaker.Go, N: 2}, L: l, List: front[:len(front)-1],
		Ship: ship(), Cell: level(40, 100), Passages: [][][]hull.Part{{nil, leg(500)}, {append(leg(100), leg(200)...), nil}},
	}
}

// R4: no argument is changed, and the same arguments have the same results, time and again.
func TestArgumentsStay(t *testing.T) {
	g := some()
	l := callAll(g)
	if !reflect.DeepEqual(g, some()) {
		t.Error("an argument has changed")
	}
	for range 5 {
		if !reflect.DeepEqual(callAll(g), l) {
			t.Error("another result")
		}
	}
}

// Find returns the same plan time and again, where there are many that are done at the same hour.
func TestThePlanStays(t *testing.T) {
	m, a := machine(), wide()
	m.Tank, m.Watch, m.Wear = 200, 48, 100
	l, n, e := breaker.Find(m, a, start(200))
	if len(l) < 8 || e != api.OK {
		t.Fatal(l, n, e)
	}
	for range 30 {
		if x, k, e := breaker.Find(m, a, start(200)); !slices.Equal(x, l) || k != n || e != api.OK {
			t.Fatal(x, k, e, l, n)
		}
	}
}

// Room behind the lists of an argument is not written to.
func TestRoomStays(t *testing.T) {
	g := some()
	all := act(breaker.Go, 1, breaker.Go, 0, breaker.Drop, 7)
	list := append(slices.Clone(g.List), start(7), start(8))
	hours := append(slices.Clone(g.A.Hours), []int{7})
	g.L, g.List, g.A.Hours = all[:2], list[:len(g.List)], hours[:3]
	callAll(g)
	if all[2] != (breaker.Action{Kind: breaker.Drop, N: 7}) || list[len(list)-2] != start(7) || list[len(list)-1] != start(8) || hours[3][0] != 7 {
		t.Error("written behind a list")
	}
}

// R4: results are new memory.
func TestResultsAreNewMemory(t *testing.T) {
	g := some()
	before := callAll(some())
	for _, x := range callAll(g) {
		switch l := x.(type) {
		case []breaker.Action:
			clear(l[:cap(l)])
		case []breaker.State:
			clear(l[:cap(l)])
		case [][]int:
			for _, row := range l {
				clear(row[:cap(row)])
			}
			clear(l[:cap(l)])
		}
	}
	if !reflect.DeepEqual(g, some()) {
		t.Error("a result shares memory")
	}
	if !reflect.DeepEqual(callAll(g), before) {
		t.Error("a result is kept")
	}
	// The rows of a table share none with each other.
	l, e := breaker.Table(ship(), [][][]hull.Part{{nil, leg(1)}, {leg(1), nil}})
	if e != api.OK {
		t.Fatal(e)
	}
	_ = append(l[0], 9)
	if !slices.Equal(l[1], []int{1, 0}) {
		t.Error("rows that share memory", l)
	}
}

// R3: a nil list and an empty list are the same value.
func TestNilAndEmpty(t *testing.T) {
	none := given{M: machine(), A: breaker.Area{Hours: square(1), Press: []int{0}, Limit: 3}, S: start(60), T: start(60), Ship: ship()}
	empty := none
	empty.A.Cases, empty.L, empty.List, empty.Passages = []breaker.Case{}, []breaker.Action{}, []breaker.State{}, [][][]hull.Part{}
	if a, b := callAll(none), callAll(empty); !reflect.DeepEqual(a, b) {
		t.Error("nil and empty differ", a, b)
	}
	none.A.Hours, none.A.Press = nil, nil
	empty.A.Hours, empty.A.Press = [][]int{}, []int{}
	if a, b := callAll(none), callAll(empty); !reflect.DeepEqual(a, b) {
		t.Error("nil and empty differ", a, b)
	}
	none.A.Hours, none.A.Press = [][]int{nil, nil}, []int{0}
	empty.A.Hours, empty.A.Press = [][]int{{}, {}}, []int{0}
	if a, b := callAll(none), callAll(empty); !reflect.DeepEqual(a, b) {
		t.Error("nil and empty differ", a, b)
	}
	for i, l := range [][][][]hull.Part{{nil}, {{}}} {
		if _, e := breaker.Table(ship(), l); e != api.ErrMany {
			t.Error(i, e)
		}
	}
	for i, l := range [][][][]hull.Part{{{nil, nil}, {nil, nil}}, {{{}, {}}, {{}, {}}}} {
		if _, e := breaker.Table(ship(), l); e != api.ErrMany {
			t.Error(i, e)
		}
	}
}

// wild are numbers that no limit allows, or few.
var wild = []int{-1 << 63, -1 << 62, -1000000001, -2, -1, 0, 1, 2, 3, 4, 5, 25, 49, 61, 101, 201, 1 << 31, 1 << 62, 1<<63 - 1}

// P9: every function terminates and does not panic, whatever it gets.
func TestTermination(t *testing.T) {
	r := random()
	for range 4000 {
		o := anyModel(r, 4, 3, r.IntN(16))
		g := given{M: o.m, A: o.a, S: o.anyState(r), T: o.anyState(r), Ship: ship(), Cell: level(r.IntN(200), r.IntN(250))}
		g.X = breaker.Action{Kind: r.IntN(10), N: r.IntN(4)}
		g.L = append(o.anyProgram(r, g.S, r.IntN(20)), g.X)
		for range r.IntN(9) {
			g.List = append(g.List, o.anyState(r))
		}
		for range r.IntN(4) {
			g.Passages = append(g.Passages, slices.Repeat([][]hull.Part{leg(r.IntN(3000))}, r.IntN(4)))
		}
		places := []*int{
			&g.M.Tank, &g.M.Idle, &g.M.Steam, &g.M.Work, &g.M.Watch, &g.M.Rest, &g.M.Wear, &g.M.Refit,
			&g.A.Limit, &g.A.Press[0], &g.A.Hours[0][0], &g.X.Kind, &g.X.N, &g.L[0].Kind, &g.L[0].N,
			&g.S.Hour, &g.S.Site, &g.S.Fuel, &g.S.Awake, &g.S.Worn, &g.S.Notch, &g.S.Cases[0], &g.S.Cases[1], &g.S.Cases[2],
			&g.T.Hour, &g.T.Site, &g.T.Notch, &g.T.Cases[2], &g.Cell.Press.Hi, &g.Cell.Thick.Hi, &g.Ship.Class, &g.Ship.Press,
		}
		if len(g.A.Cases) > 0 {
			c := &g.A.Cases[0]
			places = append(places, &c.Site, &c.To, &c.Cut, &c.Calm)
		}
		if len(g.List) > 0 {
			s := &g.List[0]
			places = append(places, &s.Hour, &s.Site, &s.Fuel, &s.Notch, &s.Cases[1])
		}
		for range r.IntN(3) {
			*places[r.IntN(len(places))] = wild[r.IntN(len(wild))]
		}
		switch r.IntN(12) {
		case 0:
			g.A.Hours[0] = nil
		case 1:
			g.A.Hours = nil
		case 2:
			g.A.Press = nil
		case 3:
			g.A.Cases = append(g.A.Cases, breaker.Case{Site: 3, To: 3, Cut: 1}, breaker.Case{Cut: 1, Towed: true})
		case 4:
			g.L = slices.Repeat(g.L, 120)
		}
		callAll(g)
	}
	callAll(given{})
}

// Limits: 4 sites, 3 cases, 60 hours; the largest numbers that machines and areas may have.
func TestLargest(t *testing.T) {
	m := breaker.Machine{Tank: 200, Idle: 5, Steam: 9, Work: 9, Watch: 48, Rest: 24, Wear: 100, Refit: 48}
	a := breaker.Area{Press: slices.Repeat([]int{3}, 60), Limit: 60, Cases: slices.Repeat([]breaker.Case{{Site: 3, To: 3, Cut: 24, Calm: 3, Towed: true}}, 3)}
	for i := range 4 {
		row := slices.Repeat([]int{24}, 4)
		row[i] = 0
		a.Hours = append(a.Hours, row)
	}
	if e := breaker.Check(m, a); e != api.OK {
		t.Error(e)
	}
	s := breaker.State{Hour: 12, Site: 3, Fuel: 200, Notch: 2, Cases: [3]int{3, 1, 2}}
	if _, e := breaker.Do(m, a, s, breaker.Action{Kind: breaker.Go}); e != api.ErrBreaker {
		t.Error(e)
	}
	a.Press = []int{2}
	if _, e := breaker.Do(m, a, s, breaker.Action{Kind: breaker.Go}); e != api.ErrFuel {
		t.Error(e)
	}
	m.Work = 4
	if x, e := breaker.Do(m, a, s, breaker.Action{Kind: breaker.Go}); x != (breaker.State{Hour: 60, Fuel: 8, Awake: 48, Worn: 48, Notch: 2, Cases: [3]int{3, 1, 2}}) || e != api.OK {
		t.Error(x, e)
	}
	if x, e := breaker.Do(m, a, breaker.State{Hour: 12, Notch: -1}, breaker.Action{Kind: breaker.Refit}); x != (breaker.State{Hour: 60, Notch: -1}) || e != api.OK {
		t.Error(x, e)
	}
	if l, n, e := breaker.Find(m, a, start(200)); len(l) != 0 || n != 0 || e != api.ErrNone {
		t.Error(l, n, e)
	}
	if n, e := breaker.Calm(ship(), ice.Cell{}); n != 3 || e != api.OK {
		t.Error(n, e)
	}
}
