package drift_test

import (
	"slices"
	"testing"

	"polynya/api"
	"polynya/drift"
)

// P2.4: floes.

func TestFloes(t *testing.T) {
	b := basin("....#")
	l := [][]drift.Flow{all(b, drift.Flow{X: span(1, 1)}), all(b, drift.Flow{X: span(1000, 1001)})}
	for i, c := range []struct {
		l             [][]drift.Flow
		cell          int
		reach, origin [][]int
	}{
		{nil, 2, [][]int{{2}}, [][]int{{2}}},
		{l, 1, [][]int{{1}, {1, 2}, {2, 3}}, [][]int{{1}, {0}, {0}}},
		{l, 3, [][]int{{3}, {3}, {3}}, [][]int{{3}, {1, 2, 3}, {0, 1, 2, 3}}},
		{l[1:], 2, [][]int{{2}, {2, 3}}, [][]int{{2}, {0, 1, 2}}},
		// In no cell can a floe have been that is in cell 0 after the second step.
		{l, 0, [][]int{{0}, {0, 1}, {1, 2, 3}}, [][]int{{0}, {}, {}}},
		{[][]drift.Flow{l[1], l[0]}, 1, [][]int{{1}, {2, 3}, {2, 3}}, [][]int{{1}, {0, 1}, {0}}},
	} {
		if x, e := drift.Reach(b, c.l, c.cell); e != api.OK || !sameLists(x, c.reach) {
			t.Error(i, x, e)
		}
		if x, e := drift.Origin(b, c.l, c.cell); e != api.OK || !sameLists(x, c.origin) {
			t.Error(i, x, e)
		}
	}
}

func TestStepsOfAFloe(t *testing.T) {
	b := basin("..")
	for i, k := range []int{1, 47, 48} {
		l := slices.Repeat([][]drift.Flow{all(b, to(1000, 0))}, k)
		if x, e := drift.Reach(b, l, 0); e != api.OK || len(x) != k+1 || !slices.Equal(x[k], []int{1}) {
			t.Error(i, x, e)
		}
		if x, e := drift.Origin(b, l, 1); e != api.OK || len(x) != k+1 || !slices.Equal(x[k], []int{0, 1}) {
			t.Error(i, x, e)
		}
	}
}

// P2.5: a floe can be where the steps' targets lead, and can have come from a cell just if from there it can be where it is.
func TestAnyFloes(t *testing.T) {
	r := random()
	for range 60 {
		b := anyBasin(r, 6, 6)
		var l [][]drift.Flow
		for range r.IntN(5) {
			l = append(l, anyFlows(r, b, 1500))
		}
		reach := make([][][]int, len(b.Land))
		for i, land := range b.Land {
			if land {
				continue
			}
			want := [][]int{{i}}
			for k, flows := range l {
				var next []int
				for _, cell := range want[k] {
					next = append(next, targetsOf(b, flows[cell], cell)...)
				}
				slices.Sort(next)
				want = append(want, slices.Compact(next))
			}
			var e api.Errno
			if reach[i], e = drift.Reach(b, l, i); e != api.OK || !sameLists(reach[i], want) {
				t.Fatal(b, l, i, reach[i], e)
			}
		}
		for i, land := range b.Land {
			if land {
				continue
			}
			origin, e := drift.Origin(b, l, i)
			if e != api.OK || len(origin) != len(l)+1 {
				t.Fatal(b, l, i, origin, e)
			}
			for k := range origin {
				var want []int
				for from, land := range b.Land {
					if land {
						continue
					}
					x, _ := drift.Reach(b, l[len(l)-k:], from)
					if slices.Contains(x[k], i) {
						want = append(want, from)
					}
				}
				if !slices.Equal(origin[k], want) {
					t.Fatal(b, l, i, k, origin[k], want)
				}
			}
		}
	}
}

func TestFloesErrors(t *testing.T) {
	b := basin(".#")
	good := all(b, to(0, 0))
	bad := with(good, 1, to(0, 2001))
	for i, c := range []struct {
		b    drift.Basin
		l    [][]drift.Flow
		cell int
		want api.Errno
	}{
		{drift.Basin{W: 0, H: 1}, make([][]drift.Flow, 49), 1, api.ErrRange},
		{drift.Basin{W: 2, H: 1}, make([][]drift.Flow, 49), 1, api.ErrArg},
		{b, make([][]drift.Flow, 49), 1, api.ErrMany},
		{b, slices.Repeat([][]drift.Flow{good}, 49), 0, api.ErrMany},
		{b, make([][]drift.Flow, 48), 0, api.ErrArg},
		{b, [][]drift.Flow{good, bad, nil}, 1, api.ErrDrift},
		{b, [][]drift.Flow{good, nil, bad}, 0, api.ErrArg},
		{b, [][]drift.Flow{bad, good}, 0, api.ErrDrift},
		{b, [][]drift.Flow{good}, 1, api.ErrArg},
		{b, nil, 1, api.ErrArg},
		{b, nil, 2, api.ErrArg},
		{b, nil, -1, api.ErrArg},
		{b, nil, 1<<63 - 1, api.ErrArg},
		{b, nil, -1 << 63, api.ErrArg},
	} {
		if x, e := drift.Reach(c.b, c.l, c.cell); x != nil || e != c.want {
			t.Error(i, x, e)
		}
		if x, e := drift.Origin(c.b, c.l, c.cell); x != nil || e != c.want {
			t.Error(i, x, e)
		}
	}
}
