package ice_test

import (
	"math/rand/v2"
	"slices"
	"testing"

	"polynya/api"
	"polynya/ice"
)

// anyCourse makes a course that rates allow.
func anyCourse(r *rand.Rand, m ice.Rates, hours int) []ice.Ice {
	l := []ice.Ice{anyIce(r)}
	for len(l) < hours {
		var next ice.Ice
		for q := range most {
			lo, hi := 0, most[q]
			for i := range l {
				n := *numberAt(&l[i], q)
				lo = max(lo, n-roundedUp(*numberAt(&m.Down, q), len(l)-i))
				hi = min(hi, n+roundedUp(*numberAt(&m.Up, q), len(l)-i))
			}
			*numberAt(&next, q) = lo + r.IntN(hi-lo+1)
		}
		l = append(l, next)
	}
	return l
}

// P1.5: wherever the ice was, it lies in the set.
func TestTheSetHoldsTheIce(t *testing.T) {
	r := random()
	for k := range 60 {
		m := anyRates(r, []int{3, 30, 300, 1000}[k%4])
		course := anyCourse(r, m, 40)
		if is, e := ice.Allowed(course, m); !is || e != api.OK {
			t.Fatal(course, m, is, e)
		}
		var l []ice.Report
		for i := range 12 {
			at := r.IntN(20)
			l = append(l, ice.Report{Id: i, Source: 1 + i%3, At: at, X: 1, Y: 1, Has: 1 + r.IntN(15), Cell: aroundIce(r, course[at], 1+r.IntN(40))})
		}
		for now := 19; now < len(course); now++ {
			c, e := ice.Fuse(l, m, now)
			if e != api.OK {
				t.Fatal(now, e)
			}
			if is, e := ice.Has(c, course[now]); !is || e != api.OK {
				t.Fatal(now, c, course[now], e)
			}
			if is, same, e := ice.Trust(l, m, now); e != api.OK || slices.Contains(is, false) || same != c {
				t.Fatal(now, is, same, e)
			}
			drawn, left, e := ice.Draw(2, 2, l, m, now)
			if e != api.OK || len(left) != 0 || drawn.Cells[3] != c {
				t.Fatal(now, drawn, left, e)
			}
			if is, e := ice.Holds(drawn, []ice.Ice{{}, {}, {}, course[now]}); !is || e != api.OK {
				t.Fatal(now, is, e)
			}
		}
	}
}

// P1.5: no two in conflict is enough; blamed sets are as small as those that are not trusted are many, and hit each conflict.
func TestAgreementIsThatOfPairs(t *testing.T) {
	r := random()
	agreed := 0
	for range 500 {
		now := r.IntN(90)
		l, m := anyReports(r, r.IntN(8), now), anyRates(r, 60)
		pairs, e := ice.Conflicts(l, m, now)
		if e != api.OK {
			t.Fatal(e)
		}
		_, e = ice.Fuse(l, m, now)
		if (e == api.OK) != (len(pairs) == 0) || e != api.OK && e != api.ErrEmpty {
			t.Fatal(l, m, now, pairs, e)
		}
		if e == api.OK {
			agreed++
		}
		trusted, _, _ := ice.Trust(l, m, now)
		left := 0
		for _, is := range trusted {
			if !is {
				left++
			}
		}
		sets, e := ice.Blame(l, m, now)
		if e != api.OK || len(sets) == 0 {
			t.Fatal(l, m, now, sets, e)
		}
		for _, s := range sets {
			if len(s) != left || !slices.IsSorted(s) {
				t.Fatal(l, m, now, s, trusted)
			}
			for _, p := range pairs {
				if !slices.Contains(s, p[0]) && !slices.Contains(s, p[1]) {
					t.Fatal(l, m, now, s, p)
				}
			}
		}
	}
	if agreed < 50 || agreed > 450 {
		t.Error("too few lists of one sort", agreed)
	}
}

// P1.5: Meet and Hull are commutative, associative and idempotent.
func TestLawsOfTwoCells(t *testing.T) {
	r := random()
	// meet takes and gives errors, so that ErrEmpty can be compared.
	meet := func(a, b ice.Cell, before api.Errno) (ice.Cell, api.Errno) {
		if before != api.OK {
			return ice.Cell{}, before
		}
		return ice.Meet(a, b)
	}
	for range 2000 {
		a, b, c := anyCell(r), anyCell(r), anyCell(r)
		ab, e := ice.Meet(a, b)
		if ba, f := ice.Meet(b, a); ab != ba || e != f {
			t.Fatal(a, b, ab, ba, e, f)
		}
		left, e := meet(ab, c, e)
		bc, f := ice.Meet(b, c)
		if right, f := meet(a, bc, f); left != right || e != f {
			t.Fatal(a, b, c, left, right, e, f)
		}
		if aa, e := ice.Meet(a, a); aa != a || e != api.OK {
			t.Fatal(a, aa, e)
		}
		h, _ := ice.Hull(a, b)
		if other, e := ice.Hull(b, a); other != h || e != api.OK {
			t.Fatal(a, b, h, other, e)
		}
		hl, _ := ice.Hull(h, c)
		hbc, _ := ice.Hull(b, c)
		if hr, e := ice.Hull(a, hbc); hl != hr || e != api.OK {
			t.Fatal(a, b, c, hl, hr, e)
		}
		if aa, e := ice.Hull(a, a); aa != a || e != api.OK {
			t.Fatal(a, aa, e)
		}
		for _, x := range []ice.Cell{a, b} {
			if is, e := ice.Inside(x, h); !is || e != api.OK {
				t.Fatal(x, h, is, e)
			}
		}
	}
}

// P1.5: an aged cell has the cell inside, and ageing twice gives nothing less than ageing by both times at once.
func TestLawsOfAgeing(t *testing.T) {
	r := random()
	for k := range 2000 {
		c, m := anyCell(r), anyRates(r, []int{5, 50, 1000}[k%3])
		first, second := r.IntN(50), r.IntN(50)
		once, e := ice.Age(c, m, first)
		if e != api.OK || ice.CheckCell(once) != api.OK {
			t.Fatal(c, m, first, once, e)
		}
		twice, e := ice.Age(once, m, second)
		if e != api.OK {
			t.Fatal(e)
		}
		both, e := ice.Age(c, m, first+second)
		if e != api.OK {
			t.Fatal(e)
		}
		for _, p := range [][2]ice.Cell{{c, once}, {once, twice}, {both, twice}} {
			if is, e := ice.Inside(p[0], p[1]); !is || e != api.OK {
				t.Fatal(c, m, first, second, p, e)
			}
		}
	}
}
