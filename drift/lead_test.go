package drift_test

import (
	"slices"
	"testing"

	"polynya/api"
	"polynya/drift"
	"polynya/ice"
)

// P2.3: leads.

// sketch makes a basin and its chart from rows: # is land, 3 a lead, 2 perhaps a lead, 1 closed.
func sketch(rows ...string) (drift.Basin, ice.Chart) {
	b := basin(rows...)
	c := calm(b)
	for i := range c.Cells {
		switch rows[i/b.W][i%b.W] {
		case '3':
			c.Cells[i] = ice.Cell{Conc: span(0, 10), Thick: span(0, 400)}
		case '2':
			c.Cells[i] = ice.Cell{Conc: span(10, 11)}
		case '1':
			c.Cells[i] = ice.Cell{Conc: span(11, 11)}
		}
	}
	return b, c
}

func TestKinds(t *testing.T) {
	b := basin("......", "###...")
	n := ice.Cell{}
	c := chart(b, conc(0, 0), conc(0, 10), conc(10, 10), conc(0, 11), conc(10, 11), conc(0, 100),
		n, n, n, conc(11, 11), conc(11, 100), ice.Cell{Conc: span(9, 10), Thick: span(400, 400), Ridge: span(100, 100), Press: span(3, 3)})
	if k, e := drift.Kinds(b, c); e != api.OK || !slices.Equal(k, []int{3, 3, 3, 2, 2, 2, 0, 0, 0, 1, 1, 3}) {
		t.Error(k, e)
	}
}

func TestTurns(t *testing.T) {
	b, from := sketch("321#", "333#", "222#", "1113")
	_, to := sketch("321#", "321#", "321#", "3213")
	want := []drift.Turn{{5, 3, 2}, {6, 3, 1}, {8, 2, 3}, {10, 2, 1}, {12, 1, 3}, {13, 1, 2}}
	for i, hour := range []int{0, 5, 10000} {
		if l, e := drift.Turns(b, from, later(to, hour)); e != api.OK || !slices.Equal(l, want) {
			t.Error(i, l, e)
		}
	}
	// Other ice of the same kind is no turn.
	to = from
	to.Cells = with(with(from.Cells, 0, conc(3, 4)), 2, conc(90, 100))
	if l, e := drift.Turns(b, from, to); e != api.OK || len(l) != 0 {
		t.Error(l, e)
	}
}

func TestJoined(t *testing.T) {
	for i, x := range []struct {
		rows           []string
		from, to, want int
	}{
		{[]string{"3"}, 0, 0, 2},
		{[]string{"2"}, 0, 0, 1},
		{[]string{"1"}, 0, 0, 0},
		{[]string{"33"}, 0, 1, 2},
		{[]string{"3", "3"}, 0, 1, 2},
		{[]string{"32"}, 0, 1, 1},
		{[]string{"22"}, 0, 1, 1},
		{[]string{"31"}, 0, 1, 0},
		{[]string{"21"}, 0, 1, 0},
		{[]string{"323"}, 0, 2, 1},
		{[]string{"313"}, 0, 2, 0},
		{[]string{"3#3"}, 0, 2, 0},
		// Round about over leads, rather than straight on over what is perhaps one.
		{[]string{"323", "333"}, 0, 2, 2},
		{[]string{"3#3", "323"}, 0, 2, 1},
		{[]string{"3133", "3#13", "3333"}, 0, 2, 2},
		{[]string{"3133", "3#13", "3233"}, 0, 2, 1},
		{[]string{"3133", "3#13", "3#33"}, 0, 2, 0},
		// Corners are no ways, nor does a row go on in the next one.
		{[]string{"31", "13"}, 0, 3, 0},
		{[]string{"13", "31"}, 1, 2, 0},
		{[]string{"113", "311"}, 2, 3, 0},
		{[]string{"113", "111", "311"}, 2, 6, 0},
		{[]string{"333", "111", "333"}, 1, 7, 0},
	} {
		b, c := sketch(x.rows...)
		for _, y := range [][2]int{{x.from, x.to}, {x.to, x.from}} {
			if n, e := drift.Joined(b, c, y[0], y[1]); n != x.want || e != api.OK {
				t.Error(i, y, n, e)
			}
		}
	}
}

// joined is whether cells are joined by cells whose kinds are at least so open, worked out for all cells at once.
func joined(b drift.Basin, kinds []int, open int) [][]bool {
	l := make([][]bool, len(kinds))
	for i := range kinds {
		l[i] = make([]bool, len(kinds))
		for k := range kinds {
			dx, dy := i%b.W-k%b.W, i/b.W-k/b.W
			l[i][k] = kinds[i] >= open && kinds[k] >= open && dx*dx+dy*dy <= 1
		}
	}
	for over := range kinds {
		for i := range kinds {
			for k := range kinds {
				l[i][k] = l[i][k] || l[i][over] && l[over][k]
			}
		}
	}
	return l
}

func TestAnyJoined(t *testing.T) {
	r := random()
	var times [3]int
	for range 60 {
		rows := make([]string, 1+r.IntN(6))
		for i := range rows {
			for range 6 {
				rows[i] += "#122333333"[r.IntN(10):][:1]
			}
		}
		b, c := sketch(rows...)
		kinds, e := drift.Kinds(b, c)
		if e != api.OK {
			t.Fatal(e)
		}
		sure, perhaps := joined(b, kinds, 3), joined(b, kinds, 2)
		for from := range kinds {
			for to := range kinds {
				want := 0
				switch {
				case sure[from][to]:
					want = 2
				case perhaps[from][to]:
					want = 1
				}
				n, e := drift.Joined(b, c, from, to)
				if b.Land[from] || b.Land[to] {
					if n != 0 || e != api.ErrArg {
						t.Fatal(rows, from, to, n, e)
					}
					continue
				}
				if n != want || e != api.OK {
					t.Fatal(rows, from, to, n, e)
				}
				times[n]++
			}
		}
	}
	if slices.Min(times[:]) < 500 {
		t.Error("too few of one sort", times)
	}
}

func TestLeadsErrors(t *testing.T) {
	b := basin(".#")
	good, wet, bad := calm(b), chart(b, conc(0, 5), conc(0, 1)), chart(b, conc(2, 1), conc(0, 0))
	other := chart(basin(".", "#"), wet.Cells...)
	for i, c := range []struct {
		b    drift.Basin
		c    ice.Chart
		want api.Errno
	}{
		{drift.Basin{W: 65, H: 1}, ice.Chart{}, api.ErrRange},
		{drift.Basin{W: 2, H: 1}, ice.Chart{}, api.ErrArg},
		{b, ice.Chart{}, api.ErrRange},
		{b, later(bad, -1), api.ErrRange},
		{b, chart(b, good.Cells[0]), api.ErrArg},
		{b, bad, api.ErrIce},
		{b, chart(basin(".", "#"), bad.Cells...), api.ErrIce},
		{b, other, api.ErrArg},
		{b, calm(basin(".#", "..")), api.ErrArg},
		{b, wet, api.ErrDrift},
	} {
		if k, e := drift.Kinds(c.b, c.c); k != nil || e != c.want {
			t.Error(i, k, e)
		}
		if l, e := drift.Turns(c.b, c.c, good); l != nil || e != c.want {
			t.Error(i, l, e)
		}
		if n, e := drift.Joined(c.b, c.c, -1, 9); n != 0 || e != c.want {
			t.Error(i, n, e)
		}
		if i >= 2 {
			if l, e := drift.Turns(c.b, good, c.c); l != nil || e != c.want {
				t.Error(i, l, e)
			}
		}
	}
	// Of two charts, the error of both cells comes before their sides, and these before land.
	for i, c := range []struct {
		from, to ice.Chart
		want     api.Errno
	}{
		{bad, ice.Chart{}, api.ErrIce},
		{ice.Chart{}, bad, api.ErrRange},
		{other, bad, api.ErrIce},
		{wet, bad, api.ErrIce},
		{wet, other, api.ErrArg},
		{other, wet, api.ErrArg},
	} {
		if l, e := drift.Turns(b, c.from, c.to); l != nil || e != c.want {
			t.Error(i, l, e)
		}
	}
	for i, c := range []struct {
		c        ice.Chart
		from, to int
		want     api.Errno
	}{
		{good, 0, 0, api.OK},
		{good, 1, 0, api.ErrArg},
		{good, 0, 1, api.ErrArg},
		{good, -1, 0, api.ErrArg},
		{good, 0, -1, api.ErrArg},
		{good, 2, 0, api.ErrArg},
		{good, 0, 2, api.ErrArg},
		{good, 1<<63 - 1, 0, api.ErrArg},
		{good, 0, -1 << 63, api.ErrArg},
		{wet, 1, 1, api.ErrDrift},
	} {
		if n, e := drift.Joined(b, c.c, c.from, c.to); e != c.want || e != api.OK && n != 0 {
			t.Error(i, n, e)
		}
	}
}
