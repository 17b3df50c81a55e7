package drift_test

import (
	"slices"
	"testing"

	"polynya/api"
	"polynya/drift"
	"polynya/ice"
)

// P2.2: fields, charts and runs.

func TestDrift(t *testing.T) {
	b := basin("...")
	field := []ice.Ice{{Conc: 60, Thick: 40}, {Conc: 70, Thick: 40}, {Conc: 50, Thick: 40}}
	moves := []drift.Move{{DX: 1}, {DX: 1}, {DX: 1}}
	x, over, e := drift.Drift(b, all(b, to(1000, 0)), field, moves)
	if e != api.OK || !slices.Equal(over, []int{0, 0, 20}) || !slices.Equal(x, []ice.Ice{{}, {Conc: 60, Thick: 40}, {Conc: 100, Thick: 42, Ridge: 4, Press: 1}}) {
		t.Error(x, over, e)
	}
	// What stays has no pressure any more; what has no Conc leaves nothing.
	x, over, e = drift.Drift(b, all(b, to(0, 0)), []ice.Ice{{Conc: 100, Thick: 400, Ridge: 100, Press: 3}, {Thick: 400, Ridge: 100, Press: 3}, {Conc: 1}}, make([]drift.Move, 3))
	if e != api.OK || !slices.Equal(over, []int{0, 0, 0}) || !slices.Equal(x, []ice.Ice{{Conc: 100, Thick: 400, Ridge: 100}, {}, {Conc: 1}}) {
		t.Error(x, over, e)
	}
	// Nor does what has no Conc count for what it comes to.
	x, _, e = drift.Drift(b, all(b, to(1000, 0)), []ice.Ice{{}, {Conc: 1, Thick: 5, Ridge: 6}, {Thick: 9, Ridge: 9}}, moves)
	if e != api.OK || x[2] != (ice.Ice{Conc: 1, Thick: 5, Ridge: 6}) {
		t.Error(x, e)
	}
	// The greatest Thick and the greatest Ridge can be those of different ice.
	x, over, e = drift.Drift(b, all(b, to(1000, 0)), []ice.Ice{{}, {Conc: 50, Thick: 5, Ridge: 60}, {Conc: 50, Thick: 70, Ridge: 9}}, moves)
	if e != api.OK || over[2] != 0 || x[2] != (ice.Ice{Conc: 100, Thick: 70, Ridge: 60}) {
		t.Error(x, over, e)
	}
}

func TestDriftAtAllEndsOfTheExcess(t *testing.T) {
	// The ice of all cells comes to the first one.
	b := basin("...", "...", "...")
	l := all(b, drift.Flow{X: span(-2000, 0), Y: span(-2000, 0)})
	var moves []drift.Move
	for i := range l {
		moves = append(moves, drift.Move{DX: -(i % 3), DY: -(i / 3)})
	}
	for _, c := range []struct{ over, thick, ridge, press int }{
		{0, 0, 0, 0},
		{1, 0, 0, 1},
		{4, 0, 0, 1},
		{5, 0, 1, 1},
		{9, 0, 1, 1},
		{10, 1, 2, 1},
		{19, 1, 3, 1},
		{20, 2, 4, 1},
		{24, 2, 4, 1},
		{25, 2, 5, 1},
		{26, 2, 5, 2},
		{50, 5, 10, 2},
		{51, 5, 10, 3},
		{75, 7, 15, 3},
		{76, 7, 15, 3},
		{100, 10, 20, 3},
		{499, 49, 99, 3},
		{500, 50, 100, 3},
		{800, 80, 160, 3},
	} {
		field := make([]ice.Ice, 9)
		for i, left := 0, c.over+100; left > 0; i++ {
			field[i].Conc = min(left, 100)
			left -= field[i].Conc
		}
		for _, x := range []ice.Ice{{Press: 2}, {Thick: 310, Ridge: 20}, {Thick: 400 - c.thick, Ridge: max(100-c.ridge, 0)}, {Thick: 400, Ridge: 100, Press: 3}} {
			field[0].Thick, field[0].Ridge, field[0].Press = x.Thick, x.Ridge, x.Press
			after, over, e := drift.Drift(b, l, field, moves)
			want := ice.Ice{Conc: 100, Thick: min(x.Thick+c.thick, 400), Ridge: min(x.Ridge+c.ridge, 100), Press: c.press}
			if e != api.OK || after[0] != want || over[0] != c.over {
				t.Error(c, x, after[0], over[0], e)
			}
			for i := 1; i < 9; i++ {
				if after[i] != (ice.Ice{}) || over[i] != 0 {
					t.Error(c, i, after[i], over[i])
				}
			}
		}
	}
}

func TestDriftToOneCell(t *testing.T) {
	// As much as can come together: 25 cells.
	b := basin(".....", ".....", ".....", ".....", ".....")
	l := all(b, drift.Flow{X: span(-2000, 2000), Y: span(-2000, 2000)})
	var moves []drift.Move
	for i := range l {
		moves = append(moves, drift.Move{DX: 2 - i%5, DY: 2 - i/5})
	}
	x, over, e := drift.Drift(b, l, slices.Repeat([]ice.Ice{{Conc: 100, Thick: 159}}, 25), moves)
	if e != api.OK || over[12] != 2400 || x[12] != (ice.Ice{Conc: 100, Thick: 399, Ridge: 100, Press: 3}) {
		t.Error(x[12], over[12], e)
	}
}

func TestDriftAtLand(t *testing.T) {
	b := basin("..#", "...")
	stay := drift.Move{}
	field := []ice.Ice{{Conc: 10}, {Conc: 20}, {}, {Conc: 30}, {Conc: 40}, {Conc: 50}}
	for i, c := range []struct {
		f     drift.Flow
		m     drift.Move
		want  []int
		spare drift.Move
	}{
		{to(1000, 0), drift.Move{DX: 1}, []int{0, 30, 0, 0, 30, 90}, drift.Move{DX: 9}},
		{to(-1000, 0), drift.Move{DX: -1}, []int{30, 0, 0, 70, 50, 0}, drift.Move{DX: 1 << 62}},
		{to(0, -1000), drift.Move{DY: -1}, []int{40, 60, 0, 0, 0, 50}, drift.Move{DY: -1 << 63, DX: 1<<63 - 1}},
		{to(2000, 0), drift.Move{DX: 2}, []int{10, 20, 0, 0, 40, 80}, stay},
		{to(1000, -1000), drift.Move{DX: 1, DY: -1}, []int{10, 50, 0, 0, 40, 50}, stay},
	} {
		moves := with(slices.Repeat([]drift.Move{c.m}, 6), 2, c.spare)
		x, over, e := drift.Drift(b, all(b, c.f), field, moves)
		var l []int
		for _, x := range x {
			l = append(l, x.Conc)
		}
		if e != api.OK || !slices.Equal(l, c.want) || !slices.Equal(over, make([]int, 6)) {
			t.Error(i, l, over, e)
		}
	}
}

func TestAnyDrift(t *testing.T) {
	r := random()
	for k := range 400 {
		b := anyBasin(r, 6, 6)
		l := anyFlows(r, b, 1+k%4*1000)
		field, _ := anyField(r, b, 1)
		moves := anyMoves(r, b, l)
		want, much := drifted(b, field, moves)
		if x, over, e := drift.Drift(b, l, field, moves); e != api.OK || !slices.Equal(x, want) || !slices.Equal(over, much) {
			t.Fatal(b, l, field, moves, x, over, e)
		}
	}
}

func TestMovesOfAFlow(t *testing.T) {
	// Just the moves of a flow are taken.
	b := basin(".....", ".....", ".....", ".....", ".....")
	field := make([]ice.Ice, 25)
	for i, lo := range ends {
		for k, hi := range ends[i:] {
			f := drift.Flow{X: span(lo.n, hi.n), Y: span(ends[k].n, ends[k].n+1)}
			if f.Y.Hi > 2000 {
				f.Y = sure(2000)
			}
			for dy := -3; dy <= 3; dy++ {
				for dx := -3; dx <= 3; dx++ {
					m := drift.Move{DX: dx, DY: dy}
					want := api.ErrDrift
					if slices.Contains(movesOf(f), m) {
						want = api.OK
					}
					can := movesOf(f)[0]
					if _, _, e := drift.Drift(b, all(b, f), field, with(slices.Repeat([]drift.Move{can}, 25), 24, m)); e != want {
						t.Error(f, m, e)
					}
				}
			}
		}
	}
}

func TestDriftErrors(t *testing.T) {
	b := basin("..#.")
	l := all(b, to(1000, 0))
	right, none := drift.Move{DX: 1}, drift.Move{}
	moves := []drift.Move{right, right, none, right}
	calm := make([]ice.Ice, 4)
	wrong := ice.Ice{Press: 4}
	for i, c := range []struct {
		b     drift.Basin
		l     []drift.Flow
		field []ice.Ice
		moves []drift.Move
		want  api.Errno
	}{
		{drift.Basin{W: 65, H: 1}, nil, nil, nil, api.ErrRange},
		{drift.Basin{W: 4, H: 1}, l, calm, moves, api.ErrArg},
		{b, l[:3], calm, moves, api.ErrArg},
		{b, with(l, 2, to(2001, 0)), nil, nil, api.ErrDrift},
		{b, l, nil, nil, api.ErrArg},
		{b, l, calm[:3], moves, api.ErrArg},
		{b, l, append(with(calm, 0, wrong), wrong), moves, api.ErrArg},
		{b, l, with(calm, 0, wrong), moves[:3], api.ErrArg},
		{b, l, calm, append(with(moves, 0, none), none), api.ErrArg},
		{b, l, with(calm, 0, wrong), with(moves, 0, none), api.ErrIce},
		{b, l, with(calm, 3, wrong), with(moves, 0, none), api.ErrDrift},
		{b, l, with(calm, 0, wrong), with(moves, 1, none), api.ErrIce},
		{b, l, with(calm, 2, wrong), moves, api.ErrIce},
		{b, l, with(calm, 2, ice.Ice{Press: 1}), moves, api.ErrDrift},
		{b, l, with(calm, 2, ice.Ice{Thick: 1}), with(moves, 3, none), api.ErrDrift},
		{b, l, with(with(calm, 2, ice.Ice{Conc: 1}), 3, wrong), moves, api.ErrDrift},
		{b, l, with(calm, 3, wrong), with(moves, 3, none), api.ErrIce},
		{b, l, calm, with(moves, 3, none), api.ErrDrift},
		{b, l, calm, with(moves, 3, drift.Move{DX: 1, DY: 1}), api.ErrDrift},
		{b, l, calm, with(moves, 3, drift.Move{DX: 1<<63 - 1}), api.ErrDrift},
		{b, l, with(calm, 1, ice.Ice{Conc: 101}), moves, api.ErrIce},
	} {
		if x, over, e := drift.Drift(c.b, c.l, c.field, c.moves); x != nil || over != nil || e != c.want {
			t.Error(i, x, over, e)
		}
	}
}

func TestStep(t *testing.T) {
	// The ice of cell 0 may stay or go right, that of the others goes right, or stays at the edge.
	b := basin("...")
	l := []drift.Flow{{X: span(1, 1)}, to(1000, 0), to(1000, 0)}
	c := chart(b,
		ice.Cell{Conc: span(30, 40), Thick: span(20, 50), Ridge: span(2, 3), Press: span(1, 3)},
		ice.Cell{Conc: span(60, 80), Thick: span(90, 95), Ridge: span(1, 5)},
		ice.Cell{Conc: span(45, 55), Thick: span(10, 100), Ridge: span(4, 4)})
	may := ice.Cell{Conc: span(0, 40), Thick: span(0, 50), Ridge: span(0, 3)}
	n, e := drift.Step(b, l, c)
	if e != api.OK || !sameChart(n, later(chart(b, may, may, ice.Cell{Conc: sure(100), Thick: span(90, 103), Ridge: span(5, 12), Press: span(1, 2)}), 6)) {
		t.Error(n, e)
	}
	// All moves of a cell can have one and the same target: then its ice comes there for sure.
	n, e = drift.Step(basin(".#."), all(b, drift.Flow{X: span(-1000, 1000), Y: span(-1, 1)}), chart(b, c.Cells[0], ice.Cell{}, c.Cells[2]))
	stay := ice.Cell{Conc: span(30, 40), Thick: span(20, 50), Ridge: span(2, 3)}
	if e != api.OK || !sameChart(n, later(chart(b, stay, ice.Cell{}, c.Cells[2]), 6)) {
		t.Error(n, e)
	}
	// Ice that may not be there has no thickness for sure; where there cannot be any, there is none.
	n, e = drift.Step(b, all(b, to(0, 0)), chart(b, ice.Cell{Conc: span(0, 9), Thick: span(7, 8), Ridge: span(5, 6)}, ice.Cell{Thick: span(7, 8), Ridge: span(5, 6), Press: span(1, 2)}, ice.Cell{Conc: span(1, 1), Thick: span(7, 8)}))
	if e != api.OK || !sameChart(n, later(chart(b, ice.Cell{Conc: span(0, 9), Thick: span(0, 8), Ridge: span(0, 6)}, ice.Cell{}, ice.Cell{Conc: span(1, 1), Thick: span(7, 8)}), 6)) {
		t.Error(n, e)
	}
	// Ice that moves by exactly one cell leaves its cell open.
	n, e = drift.Step(b, all(b, to(1000, 0)), chart(b, c.Cells[1], ice.Cell{}, ice.Cell{}))
	if e != api.OK || !sameChart(n, later(chart(b, ice.Cell{}, c.Cells[1], ice.Cell{}), 6)) {
		t.Error(n, e)
	}
}

func TestStepErrors(t *testing.T) {
	b := basin(".#")
	l := all(b, to(0, 0))
	wet := chart(b, conc(1, 2), ice.Cell{Press: span(0, 1)})
	bad := ice.Cell{Conc: span(2, 1)}
	for i, c := range []struct {
		b    drift.Basin
		l    []drift.Flow
		c    ice.Chart
		want api.Errno
	}{
		{drift.Basin{W: 0, H: 1}, l, calm(b), api.ErrRange},
		{drift.Basin{W: 2, H: 1}, l, calm(b), api.ErrArg},
		{b, l[1:], ice.Chart{}, api.ErrArg},
		{b, with(l, 1, to(0, 2001)), ice.Chart{}, api.ErrDrift},
		{b, l, ice.Chart{}, api.ErrRange},
		{b, l, later(calm(b), 10001), api.ErrRange},
		{b, l, chart(b, bad), api.ErrArg},
		{b, l, chart(basin("..."), conc(0, 0), conc(0, 0), bad), api.ErrIce},
		{b, l, chart(basin("..."), wet.Cells[0], wet.Cells[1], conc(0, 0)), api.ErrArg},
		{b, l, later(calm(basin(".", "#")), 10000), api.ErrArg},
		{b, l, calm(basin(".#", "..")), api.ErrArg},
		{b, l, chart(b, bad, wet.Cells[1]), api.ErrIce},
		{b, l, wet, api.ErrDrift},
		{b, l, later(wet, 10000), api.ErrDrift},
		{b, l, later(calm(b), 10000), api.ErrRange},
	} {
		if n, e := drift.Step(c.b, c.l, c.c); !sameChart(n, ice.Chart{}) || e != c.want {
			t.Error(i, n, e)
		}
	}
	if n, e := drift.Step(b, l, later(calm(b), 9999)); !sameChart(n, later(calm(b), 10000)) || e != api.OK {
		t.Error(n, e)
	}
}

func TestRun(t *testing.T) {
	b := basin("..#.")
	right := all(b, drift.Flow{X: span(1, 1)})
	left := all(b, to(-1000, 0))
	x := ice.Cell{Conc: span(50, 60), Thick: span(40, 50), Ridge: span(2, 3), Press: span(1, 1)}
	c := chart(b, x, ice.Cell{}, ice.Cell{}, ice.Cell{})
	m := ice.Rates{Up: ice.Ice{Thick: 24}, Down: ice.Ice{Conc: 25, Thick: 1}} // in an hour 1 up, and 2 and 1 down
	run, e := drift.Run(b, [][]drift.Flow{right, left}, c, m)
	grown := ice.Cell{Thick: span(0, 1)}
	may := ice.Cell{Conc: span(0, 60), Thick: span(0, 51), Ridge: span(0, 3)}
	// The chart does not know that just one of the two cells has the ice: 120 of Conc may come together.
	back := ice.Cell{Conc: span(0, 100), Thick: span(0, 54), Ridge: span(0, 7), Press: span(0, 1)}
	if e != api.OK || len(run) != 3 || !sameChart(run[0], c) || !sameChart(run[1], later(chart(b, may, may, ice.Cell{}, grown), 6)) || !sameChart(run[2], later(chart(b, back, grown, ice.Cell{}, grown), 7)) {
		t.Error(run, e)
	}
	for i, k := range []int{0, 1, 47, 48} {
		run, e := drift.Run(b, slices.Repeat([][]drift.Flow{left}, k), later(c, 10000-k), m)
		if e != api.OK || len(run) != k+1 || run[k].Hour != 10000 {
			t.Error(i, run, e)
		}
	}
}

func TestRunIsItsSteps(t *testing.T) {
	r := random()
	for range 40 {
		b := anyBasin(r, 7, 7)
		_, c := anyField(r, b, 1+r.IntN(9))
		var l [][]drift.Flow
		for range r.IntN(9) {
			l = append(l, anyFlows(r, b, 1500))
		}
		m := ice.Rates{Up: ice.Ice{Conc: r.IntN(99), Thick: r.IntN(99), Press: r.IntN(9)}, Down: ice.Ice{Conc: r.IntN(99), Ridge: r.IntN(99)}}
		run, e := drift.Run(b, l, c, m)
		if e != api.OK || len(run) != len(l)+1 {
			t.Fatal(run, e)
		}
		for i, flows := range l {
			if !sameChart(run[i], c) {
				t.Fatal(i, run[i], c)
			}
			if c, e = drift.Step(b, flows, c); e != api.OK {
				t.Fatal(e)
			}
			for i, land := range b.Land {
				if !land {
					c.Cells[i], _ = ice.Age(c.Cells[i], m, 1)
				}
			}
		}
		if !sameChart(run[len(l)], c) {
			t.Fatal(run[len(l)], c)
		}
	}
}

func TestRunErrors(t *testing.T) {
	b := basin(".#")
	good := all(b, to(0, 0))
	bad := with(good, 1, to(0, 2001))
	wet := chart(b, conc(1, 2), ice.Cell{Press: span(0, 1)})
	fast := ice.Rates{Down: ice.Ice{Press: 1001}}
	many := make([][]drift.Flow, 49)
	for i, c := range []struct {
		b    drift.Basin
		l    [][]drift.Flow
		c    ice.Chart
		m    ice.Rates
		want api.Errno
	}{
		{drift.Basin{W: 2, H: 33 * 2}, many, wet, fast, api.ErrRange},
		{drift.Basin{W: 2, H: 1}, many, wet, fast, api.ErrArg},
		{b, many, ice.Chart{}, fast, api.ErrMany},
		{b, slices.Repeat([][]drift.Flow{good}, 49), calm(b), ice.Rates{}, api.ErrMany},
		{b, many[:48], ice.Chart{}, fast, api.ErrRange},
		{b, nil, chart(b, ice.Cell{Thick: span(0, 401)}, wet.Cells[1]), fast, api.ErrIce},
		{b, nil, chart(basin(".", "#"), wet.Cells...), fast, api.ErrArg},
		{b, many[:1], wet, fast, api.ErrDrift},
		{b, many[:1], calm(b), fast, api.ErrRange},
		{b, nil, calm(b), fast, api.ErrRange},
		{b, many[:1], calm(b), ice.Rates{}, api.ErrArg},
		{b, [][]drift.Flow{good[1:]}, calm(b), ice.Rates{}, api.ErrArg},
		{b, [][]drift.Flow{good, bad, nil}, calm(b), ice.Rates{}, api.ErrDrift},
		{b, [][]drift.Flow{good, nil, bad}, calm(b), ice.Rates{}, api.ErrArg},
		// The steps come one by one, and of one its flows before its hour.
		{b, [][]drift.Flow{good}, later(calm(b), 10000), ice.Rates{}, api.ErrRange},
		{b, [][]drift.Flow{bad}, later(calm(b), 10000), ice.Rates{}, api.ErrDrift},
		{b, [][]drift.Flow{good, bad}, later(calm(b), 10000), ice.Rates{}, api.ErrRange},
		{b, [][]drift.Flow{good, bad}, later(calm(b), 9999), ice.Rates{}, api.ErrDrift},
		{b, [][]drift.Flow{good, good, bad}, later(calm(b), 9999), ice.Rates{}, api.ErrRange},
	} {
		if run, e := drift.Run(c.b, c.l, c.c, c.m); run != nil || e != c.want {
			t.Error(i, run, e)
		}
	}
}
