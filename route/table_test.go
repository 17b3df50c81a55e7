package route_test

import (
	"slices"
	"testing"

	"polynya/api"
	"polynya/drift"
	"polynya/hull"
	"polynya/ice"
	"polynya/route"
)

// P4.3: tables, proofs and walls.

// lists makes a table from lists, each of which goes on for some ticks.
func lists(l ...[]int) [][]int {
	var table [][]int
	for _, x := range l {
		table = append(table, slices.Repeat([][]int{x[1:]}, x[0])...)
	}
	return table
}

func TestTable(t *testing.T) {
	for i, c := range []struct {
		change func(p *route.Plan)
		want   [][]int
	}{
		{func(p *route.Plan) {}, lists([]int{3, 0}, []int{3, 0, 1}, []int{7, 0, 1, 2})},
		{func(p *route.Plan) { p.From = 1 }, lists([]int{3, 1}, []int{10, 0, 1, 2})},
		{func(p *route.Plan) { p.To = 0 }, lists([]int{3, 0}, []int{3, 0, 1}, []int{7, 0, 1, 2})},
		// The chapter's examples.
		{func(p *route.Plan) { put(*p, heavy(), 1, 0) }, lists([]int{9, 0}, []int{3, 0, 1}, []int{1, 0, 1, 2})},
		{func(p *route.Plan) { put(*p, heavy(), 1) }, lists([]int{13, 0})},
		// In From at 0 anyway; where she may be beset she does not wait, but she goes on; a ship under way is in no cell.
		{func(p *route.Plan) { put(*p, closed(), 0) }, lists([]int{1, 0}, []int{2}, []int{3, 1}, []int{7, 1, 2})},
		{func(p *route.Plan) { put(*p, closed(), 0); put(*p, closed(), 1) }, lists([]int{1, 0}, []int{12})},
		{func(p *route.Plan) { put(*p, heavy(), 0, 1) }, lists([]int{3, 0}, []int{3, 0, 1}, []int{1, 0, 1, 2}, []int{6, 1, 2})},
		{func(p *route.Plan) { put(*p, heavy(), 1, 1) }, lists([]int{3, 0}, []int{3, 0, 1}, []int{1, 0, 1, 2}, []int{6, 0, 2})},
		{func(p *route.Plan) { put(*p, heavy(), 2, 1) }, lists([]int{3, 0}, []int{3, 0, 1}, []int{1, 0, 1, 2}, []int{6, 0, 1})},
		// A leg while the chart changes: at 135 she goes from 3 to 7, before cell 2 has thicker ice; later ones are in it.
		{func(p *route.Plan) { put(*p, level(50, 50), 2) }, lists([]int{3, 0}, []int{4, 0, 1}, []int{6, 0, 1, 2})},
		{func(p *route.Plan) { p.Basin.Land[1] = true }, lists([]int{13, 0})},
		{func(p *route.Plan) { p.Size = 500 }, lists([]int{13, 0})},
		{func(p *route.Plan) { p.Size, p.Ship = 500, upTo(250) }, lists([]int{12, 0}, []int{1, 0, 1})},
	} {
		p := changed(c.change)
		if l, e := route.Table(p); !sameLists(l, c.want) || e != api.OK {
			t.Error(i, l, e)
		}
	}
}

func TestAnyTable(t *testing.T) {
	r := random()
	for range 60 {
		p := anyPlan(r, 4, 4, 4)
		if l, e := route.Table(p); e != api.OK || !sameLists(l, modelOf(p).table()) {
			t.Fatal(p, l, e)
		}
	}
}

// blocked is a plan of five cells in a row: cell 3 is closed, so that she can be in the first three only.
func blocked() route.Plan {
	p := plan(2, ".....")
	put(p, closed(), 3)
	return p
}

func TestProves(t *testing.T) {
	open := [][]int{3: {0}, 6: {0}, 12: {0}}
	for i, c := range []struct {
		change func(p *route.Plan)
		table  [][]int
		want   bool
		err    api.Errno
	}{
		{func(p *route.Plan) {}, lists([]int{13, 0, 1, 2}), true, api.OK},
		{func(p *route.Plan) {}, lists([]int{3, 0}, []int{3, 0, 1}, []int{7, 0, 1, 2}), true, api.OK},
		// More cells do no harm, as long as nothing leads out of them.
		{func(p *route.Plan) {}, lists([]int{13, 0, 1, 2, 3}), false, api.OK},
		{func(p *route.Plan) { put(*p, closed(), 4) }, lists([]int{13, 0, 1, 2, 3}), true, api.OK},
		{func(p *route.Plan) {}, lists([]int{6, 0, 1, 2}, []int{1, 0, 1, 2, 3}, []int{6, 0, 1, 2}), false, api.OK},
		{func(p *route.Plan) {}, lists([]int{12, 0, 1, 2}, []int{1, 0, 1, 2, 3}), true, api.OK},
		// A leg from 3 to To would arrive just behind the end.
		{func(p *route.Plan) {}, lists([]int{10, 0, 1, 2}, []int{3, 0, 1, 2, 3}), true, api.OK},
		{func(p *route.Plan) {}, lists([]int{9, 0, 1, 2}, []int{4, 0, 1, 2, 3}), false, api.OK},
		// From is not in the first list; To is in one, at the beginning or at the end.
		{func(p *route.Plan) {}, lists([]int{1, 1, 2}, []int{12, 0, 1, 2}), false, api.OK},
		{func(p *route.Plan) {}, lists([]int{13}), false, api.OK},
		{func(p *route.Plan) {}, lists([]int{12, 0, 1, 2}, []int{1, 0, 1, 2, 4}), false, api.OK},
		{func(p *route.Plan) {}, lists([]int{1, 0, 1, 2, 4}, []int{12, 0, 1, 2}), false, api.OK},
		{func(p *route.Plan) { p.To = 0 }, lists([]int{13, 0, 1, 2}), false, api.OK},
		{func(p *route.Plan) { put(*p, ice.Cell{}, 3) }, lists([]int{13, 0, 1, 2}), false, api.OK},
		{func(p *route.Plan) { put(*p, ice.Cell{}, 3) }, lists([]int{13, 0, 1, 2, 3, 4}), false, api.OK},
		// A wait, or a leg, that leads to no cell of a list: the last one too.
		{func(p *route.Plan) {}, lists([]int{12, 0, 1, 2}, []int{1, 0, 1}), false, api.OK},
		{func(p *route.Plan) {}, lists([]int{12, 0, 1, 2}, []int{1, 1, 2}), false, api.OK},
		{func(p *route.Plan) {}, lists([]int{5, 0, 1, 2}, []int{1, 0, 2}, []int{7, 0, 1, 2}), false, api.OK},
		{func(p *route.Plan) {}, lists([]int{3, 0}, []int{4, 0, 1}, []int{6, 0, 1, 2}), false, api.OK},
		{func(p *route.Plan) {}, lists([]int{3, 0}, []int{9, 0, 1}, []int{1, 0, 1, 2}), false, api.OK},
		{func(p *route.Plan) { put(*p, closed(), 0); put(*p, closed(), 1) }, lists([]int{1, 0}, []int{12}), true, api.OK},
		{func(p *route.Plan) { put(*p, closed(), 0) }, lists([]int{1, 0}, []int{12}), false, api.OK},
		// The table has too few lists, or too many.
		{func(p *route.Plan) {}, nil, false, api.ErrArg},
		{func(p *route.Plan) {}, lists([]int{12, 0, 1, 2}), false, api.ErrArg},
		{func(p *route.Plan) {}, lists([]int{14, 0, 1, 2}), false, api.ErrArg},
		{func(p *route.Plan) {}, lists([]int{12, -1}), false, api.ErrArg},
		// A list out of order, or a cell that is no sea; also where nothing is proved anyway.
		{func(p *route.Plan) {}, lists([]int{12, 0, 1, 2}, []int{1, 0, 2, 1}), false, api.ErrRoute},
		{func(p *route.Plan) {}, lists([]int{1, 0, 0, 1, 2}, []int{12, 0, 1, 2}), false, api.ErrRoute},
		{func(p *route.Plan) {}, lists([]int{12, 0, 1, 2}, []int{1, 0, 1, 2, 5}), false, api.ErrRoute},
		{func(p *route.Plan) {}, lists([]int{12, 0, 1, 2}, []int{1, -1, 0, 1, 2}), false, api.ErrRoute},
		{func(p *route.Plan) {}, lists([]int{12, 0, 1, 2}, []int{1, 0, 1, 2, 1<<63 - 1}), false, api.ErrRoute},
		{func(p *route.Plan) {}, lists([]int{12, 0, 1, 2}, []int{1, -1 << 63, 0, 1, 2}), false, api.ErrRoute},
		{func(p *route.Plan) { p.Basin.Land[3] = true }, lists([]int{13, 0, 1, 2}), true, api.OK},
		{func(p *route.Plan) { p.Basin.Land[3] = true }, lists([]int{12, 0, 1, 2}, []int{1, 0, 1, 2, 3}), false, api.ErrRoute},
		{func(p *route.Plan) {}, lists([]int{1}, []int{11, 4}, []int{1, 2, 1}), false, api.ErrRoute},
		{func(p *route.Plan) { put(*p, closed(), 0); put(*p, closed(), 1) }, open, false, api.OK},
	} {
		p := blocked()
		c.change(&p)
		if is, e := route.Proves(p, c.table); is != c.want || e != c.err {
			t.Error(i, is, e)
		}
	}
}

// provesBy reports whether a table that is right proves that there is no route, worked out from the words of the document.
func (m model) provesBy(table [][]int) bool {
	for t, l := range table {
		for _, cell := range l {
			if cell == m.To || t < m.end && m.waits(cell, t, t+1) && !slices.Contains(table[t+1], cell) {
				return false
			}
			for _, leg := range m.options(cell, t) {
				if !slices.Contains(table[leg.Arrive], leg.To) {
					return false
				}
			}
		}
	}
	return slices.Contains(table[0], m.From)
}

func TestAnyProves(t *testing.T) {
	r := random()
	var seen [2]int
	for range 600 {
		p := anyPlan(r, 4, 2, 2)
		table, _ := route.Table(p)
		// One cell more, or less, in one list.
		if i, cell := r.IntN(len(table)), r.IntN(len(p.Channel)); r.IntN(2) == 0 && !p.Basin.Land[cell] {
			if k, is := slices.BinarySearch(table[i], cell); is {
				table[i] = slices.Delete(table[i], k, k+1)
			} else {
				table[i] = slices.Insert(table[i], k, cell)
			}
		}
		want := modelOf(p).provesBy(table)
		if is, e := route.Proves(p, table); is != want || e != api.OK {
			t.Fatal(p, table, is, e)
		}
		if want {
			seen[1]++
		} else {
			seen[0]++
		}
	}
	if seen[0] < 100 || seen[1] < 100 {
		t.Error("too few of a kind", seen)
	}
}

func TestWall(t *testing.T) {
	for i, c := range []struct {
		p      route.Plan
		change func(p *route.Plan)
		want   []int
		err    api.Errno
	}{
		{plan(2, "..."), func(p *route.Plan) { put(*p, heavy(), 1) }, []int{1}, api.OK},
		{blocked(), func(p *route.Plan) {}, []int{3}, api.OK},
		{blocked(), func(p *route.Plan) { put(*p, closed(), 1) }, []int{1}, api.OK},
		{blocked(), func(p *route.Plan) { p.From = 2; put(*p, closed(), 1) }, []int{1, 3}, api.OK},
		// The wall is what she does not reach in time, too.
		{plan(2, "......"), func(p *route.Plan) {}, []int{5}, api.OK},
		{plan(1, "......"), func(p *route.Plan) { p.From = 3; p.To = 0 }, []int{0}, api.OK},
		// Land is in no wall, and there may be none.
		{plan(2, "..#.."), func(p *route.Plan) {}, nil, api.OK},
		{plan(2, "<#", "#>"), func(p *route.Plan) {}, nil, api.OK},
		{plan(2, "...", "###", "..."), func(p *route.Plan) { put(*p, closed(), 1) }, []int{1}, api.OK},
		{plan(2, "..#", "...", "..>"), func(p *route.Plan) { put(*p, closed(), 4); put(*p, closed(), 6); put(*p, closed(), 8) }, []int{4, 6}, api.OK},
		// A cell in which she is just once is none of the wall.
		{plan(2, "...."), func(p *route.Plan) { put(*p, heavy(), 1, 1); put(*p, closed(), 2) }, []int{2}, api.OK},
		// A route is accepted.
		{plan(2, "..."), func(p *route.Plan) {}, nil, api.ErrState},
		{plan(2, "..."), func(p *route.Plan) { put(*p, heavy(), 1, 0) }, nil, api.ErrState},
		{plan(2, "....."), func(p *route.Plan) {}, nil, api.ErrState},
		{plan(2, "..."), func(p *route.Plan) { p.To = 0; put(*p, closed(), 1) }, nil, api.ErrState},
	} {
		c.change(&c.p)
		if l, e := route.Wall(c.p); !slices.Equal(l, c.want) || e != c.err {
			t.Error(i, l, e)
		}
	}
}

func TestAnyWall(t *testing.T) {
	r := random()
	walls := 0
	for range 300 {
		p := anyPlan(r, 4, 4, 3)
		m := modelOf(p)
		been := make([]bool, len(p.Channel))
		for _, l := range m.table() {
			for _, cell := range l {
				been[cell] = true
			}
		}
		var want []int
		err := api.OK
		for cell := range been {
			for other, is := range been {
				if is && !been[cell] && m.areNeighbours(cell, other) {
					want = append(want, cell)
					break
				}
			}
		}
		if been[p.To] {
			want, err = nil, api.ErrState
		}
		walls += len(want)
		if l, e := route.Wall(p); !slices.Equal(l, want) || e != err {
			t.Fatal(p, l, e, want)
		}
	}
	if walls < 100 {
		t.Error("too few walls", walls)
	}
}

// Limits: 48 charts, 288 ticks, basins of 1024 cells.
func TestLargest(t *testing.T) {
	p := route.Plan{Basin: drift.Basin{W: 64, H: 16, Land: make([]bool, 1024)}, Channel: make([]bool, 1024), Ship: upTo(hull.MaxSpeed), Size: 100, To: 1023}
	for i := range 48 {
		p.Charts = append(p.Charts, ice.Chart{W: 64, H: 16, Hour: 9953 + i, Cells: make([]ice.Cell, 1024)})
	}
	// 600 by 250 are three ticks, for each of 63 and 15 legs.
	l, n, e := route.Best(p)
	if e != api.OK || n != 3*78 || len(l) != 78 || l[62].To != 63 || l[63] != (route.Leg{To: 127, Depart: 189, Speed: 250, Arrive: 192}) {
		t.Error(l, n, e)
	}
	if k, e := route.Accept(p, l); k != n || e != api.OK {
		t.Error(k, e)
	}
	if k, e := route.Hope(p); k != n || e != api.OK {
		t.Error(k, e)
	}
	if _, e := route.Wall(p); e != api.ErrState {
		t.Error(e)
	}
	put(p, ice.Whole(), 1023)
	p.Ship.Class = 1
	table, e := route.Table(p)
	if e != api.OK || len(table) != 289 || len(table[0]) != 1 || len(table[288]) != 1023 {
		t.Error(len(table), e)
	}
	if is, e := route.Proves(p, table); !is || e != api.OK {
		t.Error(is, e)
	}
	if w, e := route.Wall(p); e != api.OK || !slices.Equal(w, []int{1023}) {
		t.Error(w, e)
	}
}
