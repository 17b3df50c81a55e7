package hull_test

import (
	"math/rand/v2"
	"slices"
	"testing"

	"polynya/api"
	"polynya/hull"
	"polynya/ice"
)

// P3.6: what follows.

// moreIce makes ice that has no less of anything.
func moreIce(r *rand.Rand, x ice.Ice) ice.Ice {
	more := func(n, most int) int { return n + r.IntN(most-n+1)*r.IntN(2) }
	return ice.Ice{Conc: more(x.Conc, 100), Thick: more(x.Thick, 400), Ridge: more(x.Ridge, 100), Press: more(x.Press, 3)}
}

// In more ice no ship is faster and no load is less; in a channel no ship is slower, and no load greater.
func TestMoreIce(t *testing.T) {
	r := random()
	for range 3000 {
		s, x, v, channel := anyShip(r), anyIce(r), r.IntN(251), r.IntN(2) == 0
		y := moreIce(r, x)
		speed := func(i ice.Ice, channel bool) int { n, _ := hull.Speed(s, i, channel); return n }
		load := func(i ice.Ice, channel bool) int { n, _ := hull.Load(i, v, channel); return n }
		resistance := func(i ice.Ice, channel bool) int { n, _ := hull.Resistance(s, i, v, channel); return n }
		if speed(y, channel) > speed(x, channel) || load(y, channel) < load(x, channel) || resistance(y, channel) < resistance(x, channel) {
			t.Fatal(s, x, y, v, channel)
		}
		if speed(x, true) < speed(x, false) || load(x, true) > load(x, false) || resistance(x, true) > resistance(x, false) {
			t.Fatal(s, x, v)
		}
	}
}

// within makes an ice of a cell.
func within(r *rand.Rand, c ice.Cell) ice.Ice {
	in := func(s api.Span) int { return s.Lo + r.IntN(s.Hi-s.Lo+1) }
	return ice.Ice{Conc: in(c.Conc), Thick: in(c.Thick), Ridge: in(c.Ridge), Press: in(c.Press)}
}

// wideCell makes a cell with wide spans, in some of which a ship can go.
func wideCell(r *rand.Rand) ice.Cell {
	x, y := anyIce(r), anyIce(r)
	return ice.Cell{
		Conc: span(min(x.Conc, y.Conc), max(x.Conc, y.Conc)), Thick: span(min(x.Thick, y.Thick)/3, max(x.Thick, y.Thick)/3),
		Ridge: span(min(x.Ridge, y.Ridge)/3, max(x.Ridge, y.Ridge)/3), Press: span(min(x.Press, y.Press), max(x.Press, y.Press)),
	}
}

// The speed in each ice of a cell is in Speeds, and at the safe speed she is in no ice of the cell beset nor beyond her class.
func TestEachIceOfACell(t *testing.T) {
	r := random()
	safe := 0
	for range 400 {
		s, c, channel := anyShip(r), wideCell(r), r.IntN(2) == 0
		v, e := hull.Speeds(s, c, channel)
		if e != api.OK {
			t.Fatal(e)
		}
		w, e := hull.Safe(s, c, channel)
		if e == api.OK {
			safe++
		}
		for range 20 {
			i := within(r, c)
			if n, e := hull.Speed(s, i, channel); e != api.OK || n < v.Lo || n > v.Hi {
				t.Fatal(s, c, channel, v, i, n, e)
			}
			if e != api.OK {
				continue
			}
			makes, _ := hull.Makes(s, i, w, channel)
			beset, _, _ := hull.Beset(s, only(i), channel)
			beyond, _, _ := hull.Beyond(s, only(i), w, channel)
			if w < 10 || !makes || beset || beyond {
				t.Fatal(s, c, channel, w, i, makes, beset, beyond)
			}
		}
		least := ice.Ice{Conc: c.Conc.Lo, Thick: c.Thick.Lo, Ridge: c.Ridge.Lo, Press: c.Press.Lo}
		most := ice.Ice{Conc: c.Conc.Hi, Thick: c.Thick.Hi, Ridge: c.Ridge.Hi, Press: c.Press.Hi}
		lo, _ := hull.Speed(s, most, channel)
		hi, _ := hull.Speed(s, least, channel)
		if v != span(lo, hi) {
			t.Fatal("ends that are not reached", s, c, channel, v)
		}
	}
	if safe < 50 {
		t.Error("too few cells that are safe", safe)
	}
}

// A cell with narrower spans has a safe speed, if the wider one has, and it is not less.
func TestNarrowerCells(t *testing.T) {
	r := random()
	safe := 0
	for range 2000 {
		s, c, channel := anyShip(r), wideCell(r), r.IntN(2) == 0
		x, y := within(r, c), within(r, c)
		narrow, _ := ice.Hull(only(x), only(y))
		v, e := hull.Safe(s, c, channel)
		if e != api.OK {
			continue
		}
		safe++
		if w, e := hull.Safe(s, narrow, channel); e != api.OK || w < v {
			t.Fatal(s, c, narrow, channel, v, w, e)
		}
	}
	if safe < 200 {
		t.Error("too few cells that are safe", safe)
	}
}

// In level ice of at most Limit she can make that speed, in thicker ice she cannot.
func TestLevelIce(t *testing.T) {
	r := random()
	for range 150 {
		s, v, channel := anyShip(r), r.IntN(251), r.IntN(2) == 0
		limit, e := hull.Limit(s, v, channel)
		if e == api.ErrNone {
			limit = -1
		}
		for thick := range 401 {
			if is, f := hull.Makes(s, ice.Ice{Conc: 100, Thick: thick}, v, channel); is != (thick <= limit) || f != api.OK {
				t.Fatal(s, v, channel, limit, e, thick, is, f)
			}
		}
	}
}

// less makes a number from 0 to another one, which often stays.
func less(r *rand.Rand, n int) int { return n - r.IntN(n+1)*r.IntN(2) }

// better makes a ship with no less thrust at any speed, no lesser top speed, and no more of any resistance.
func better(r *rand.Rand, s hull.Ship) hull.Ship {
	s.Thrust, s.Water, s.Ice = slices.Clone(s.Thrust), slices.Clone(s.Water), slices.Clone(s.Ice)
	more, top := r.IntN(200), &s.Thrust[len(s.Thrust)-1].X
	for i := range s.Thrust {
		s.Thrust[i].Y += more
	}
	*top += r.IntN(251 - *top)
	by := 1 + r.IntN(3)
	for i := range s.Water {
		s.Water[i].Y /= by
	}
	for i := range s.Ice {
		s.Ice[i].Y /= by
	}
	s.Slow, s.Brash, s.Ridge, s.Press = less(r, s.Slow), less(r, s.Brash), less(r, s.Ridge), less(r, s.Press)
	return s
}

// A ship with no less thrust at any speed, no lesser top speed, and no more of any resistance is never slower.
func TestBetterShips(t *testing.T) {
	r := random()
	for range 150 {
		a := anyShip(r)
		b := better(r, a)
		if n, e := hull.Slower(b, a); n != 0 || e != api.ErrNone {
			t.Fatal(a, b, n, e)
		}
		for range 20 {
			i, channel := anyIce(r), r.IntN(2) == 0
			v, e := hull.Speed(a, i, channel)
			w, f := hull.Speed(b, i, channel)
			if w < v || e != api.OK || f != api.OK {
				t.Fatal(a, b, i, channel, v, w, e, f)
			}
		}
	}
}

// A leg takes as long as its pieces, one after the other.
func TestPiecesOfALeg(t *testing.T) {
	r := random()
	whole := 0
	for range 1500 {
		s := anyShip(r)
		var l []hull.Part
		for range 2 + r.IntN(4) {
			c := wideCell(r)
			c.Press.Hi = c.Press.Lo
			l = append(l, hull.Part{Cell: c, Channel: r.IntN(4) > 0, Length: 1 + r.IntN(10000)})
		}
		k := 1 + r.IntN(len(l)-1)
		x, m, e := hull.Leg(s, l)
		y, n, f := hull.Leg(s, l[:k])
		z, o, g := hull.Leg(s, l[k:])
		if e != api.OK {
			if f == api.OK && g == api.OK || f != api.OK && (e != f || m != n) || f == api.OK && (e != g || m.Lo != o.Lo+k) {
				t.Fatal(s, l, k, m, n, o, e, f, g)
			}
			continue
		}
		whole++
		if f != api.OK || g != api.OK || !slices.Equal(x, append(slices.Clone(y), z...)) || m != span(n.Lo+o.Lo, n.Hi+o.Hi) {
			t.Fatal(s, l, k, x, m, y, n, z, o, f, g)
		}
	}
	if whole < 100 {
		t.Error("too few legs that she can go", whole)
	}
}
