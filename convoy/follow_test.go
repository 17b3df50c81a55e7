package convoy_test

import (
	"math/rand/v2"
	"slices"
	"testing"

	"polynya/api"
	"polynya/convoy"
	"polynya/hull"
	"polynya/ice"
)

// P5.6 and P3: what follows.

// someOf makes a number of a span, often at its ends.
func someOf(r *rand.Rand, s api.Span) int {
	return []int{s.Lo, s.Hi, s.Lo + r.IntN(s.Hi-s.Lo+1)}[r.IntN(3)]
}

// With at least the gaps of Gaps no ship comes nearer to the one before her than Clear, whichever member fails, and wherever from Near to Far each one comes to rest.
func TestNobodyComesTooNear(t *testing.T) {
	r := random()
	just := 0
	for range 3000 {
		c, v := anyConvoy(r, 6), r.IntN(251)
		gaps, e := convoy.Gaps(c, v)
		if e != api.OK {
			t.Fatal(c, v, e)
		}
		for i := range gaps {
			gaps[i] += r.IntN(1 + r.IntN(2)*100)
		}
		fails := r.IntN(len(c.Ships) + 1)
		var went []int
		for _, m := range append([]convoy.Member{c.Breaker}, c.Ships...)[fails:] {
			h, e := convoy.Halt(m, v)
			if e != api.OK || h.Lo > h.Hi {
				t.Fatal(m, v, h, e)
			}
			went = append(went, someOf(r, h))
		}
		left, e := convoy.Rest(c, v, gaps, fails, went)
		if e != api.OK || len(left) != len(c.Ships)-fails {
			t.Fatal(c, v, gaps, fails, went, left, e)
		}
		for _, n := range left {
			if n < c.Clear {
				t.Fatal("too near", c, v, gaps, fails, went, left)
			}
			if n == c.Clear {
				just++
			}
		}
	}
	if just < 200 {
		t.Error("too few that come as near as Clear", just)
	}
}

// With a gap that is one less, one comes nearer than Clear, unless her Far is less than the Near of the one before.
func TestNoGapIsTooGreat(t *testing.T) {
	r := random()
	for range 1000 {
		c, v := anyConvoy(r, 6), r.IntN(251)
		gaps, _ := convoy.Gaps(c, v)
		near, _ := convoy.Halt(c.Breaker, v)
		for i, m := range c.Ships {
			h, _ := convoy.Halt(m, v)
			if h.Hi >= near.Lo && gaps[i] > 0 {
				var went []int
				for _, behind := range c.Ships[i:] {
					h, _ := convoy.Halt(behind, v)
					went = append(went, h.Hi)
				}
				gaps[i]--
				left, e := convoy.Rest(c, v, gaps, i, append([]int{near.Lo}, went...))
				if e != api.OK || left[0] != c.Clear-1 {
					t.Fatal(c, v, i, gaps, left, e)
				}
				gaps[i]++
			}
			near = h
		}
	}
}

// someIce makes an ice of a cell, often at the ends of its spans.
func someIce(r *rand.Rand, c ice.Cell) ice.Ice {
	return ice.Ice{Conc: someOf(r, c.Conc), Thick: someOf(r, c.Thick), Ridge: someOf(r, c.Ridge), Press: someOf(r, c.Press)}
}

// only is the cell of just one ice.
func only(x ice.Ice) ice.Cell {
	return ice.Cell{Conc: sure(x.Conc), Thick: sure(x.Thick), Ridge: sure(x.Ridge), Press: sure(x.Press)}
}

// isFine reports whether a ship is, in an ice, neither beset nor beyond her class, and can make a speed.
func isFine(s hull.Ship, x ice.Ice, v int, channel bool) bool {
	beset, _, e := hull.Beset(s, only(x), channel)
	beyond, _, f := hull.Beyond(s, only(x), v, channel)
	makes, g := hull.Makes(s, x, v, channel)
	return !beset && !beyond && makes && e == api.OK && f == api.OK && g == api.OK
}

// anyHeld makes a convoy, a cell, and a speed that holds.
func anyHeld(r *rand.Rand, most int) (convoy.Convoy, ice.Cell, int) {
	for {
		c, cell := anyConvoy(r, most), anyCell(r)
		l, _ := convoy.Speeds(c, cell)
		if len(l) > 0 && len(c.Ships) > 0 {
			return c, cell, someOf(r, l[r.IntN(len(l))])
		}
	}
}

// At a speed that holds the last ship has passed each place before the channel closes there, and no member is beset, nor beyond her class, in any ice of the cell.
func TestSpeedsThatHold(t *testing.T) {
	r := random()
	for range 1500 {
		c, cell, v := anyHeld(r, 6)
		tail, e := convoy.Tail(c, v)
		if e != api.OK || v < 10 || v > 250 {
			t.Fatal(c, cell, v, e)
		}
		x := someIce(r, cell)
		// Tail by the metres of a second is at most 60 Close.
		if tail*9000 > 463*v*60*c.Close[x.Press] {
			t.Fatal("the channel closes", c, cell, x, v, tail)
		}
		if !isFine(c.Breaker.Ship, x, v, false) {
			t.Fatal("the Breaker", c, cell, x, v)
		}
		for i, m := range c.Ships {
			if !isFine(m.Ship, x, v, true) {
				t.Fatal(i, c, cell, x, v)
			}
		}
	}
}

// A convoy that a ship leaves holds at each speed at which it held; so do the convoys into which it is divided.
func TestLesserConvoys(t *testing.T) {
	r := random()
	for range 400 {
		c, cell, _ := anyHeld(r, 6)
		var less []convoy.Convoy
		for at := range c.Ships {
			x, e := convoy.Leave(c, at)
			if e != api.OK {
				t.Fatal(c, at, e)
			}
			less = append(less, x)
		}
		counts, e := convoy.Split(c, cell)
		if e != api.OK || !slices.Equal(counts, []int{len(c.Ships)}) {
			t.Fatal("a convoy that holds is divided", c, cell, counts, e)
		}
		all := divisions(len(c.Ships))
		less = append(less, pieces(c, all[r.IntN(len(all))])...)
		l, _ := convoy.Speeds(c, cell)
		for _, s := range l {
			for _, x := range less {
				for v := s.Lo; v <= s.Hi; v += 1 + r.IntN(9) {
					if is, e := convoy.Holds(x, cell, v); !is || e != api.OK {
						t.Fatal(c, x, cell, v, e)
					}
				}
			}
		}
	}
}

// narrowed is a cell inside another one.
func narrowed(r *rand.Rand, c ice.Cell) ice.Cell {
	x, _ := ice.Hull(only(someIce(r, c)), only(someIce(r, c)))
	return x
}

// A convoy holds in a narrower cell at each speed at which it holds in a wider one.
func TestNarrowerCells(t *testing.T) {
	r := random()
	faster := 0
	for range 1000 {
		c, cell := anyConvoy(r, 6), anyCell(r)
		inside := narrowed(r, cell)
		for _, v := range speedsOf(c, cell) {
			if v%7 > 0 {
				continue
			}
			if is, e := convoy.Holds(c, inside, v); !is || e != api.OK {
				t.Fatal(c, cell, inside, v, e)
			}
		}
		v, e := convoy.Fastest(c, cell)
		w, f := convoy.Fastest(c, inside)
		if w < v || e == api.OK && f != api.OK {
			t.Fatal(c, cell, inside, v, w, e, f)
		}
		if w > v {
			faster++
		}
	}
	if faster < 100 {
		t.Error("too few narrower cells in which a convoy is faster", faster)
	}
}

// No order is faster than Best.
func TestNoOrderIsFaster(t *testing.T) {
	r := random()
	slower := 0
	for range 400 {
		c, cell, _ := anyHeld(r, 6)
		l, best, e := convoy.Best(c, cell)
		if e != api.OK {
			t.Fatal(c, cell, e)
		}
		x, e := convoy.Ordered(c, l)
		if is, f := convoy.Holds(x, cell, best); !is || e != api.OK || f != api.OK {
			t.Fatal("the best order does not hold", c, cell, l, best, e, f)
		}
		least, _ := convoy.Tail(x, best)
		for range 20 {
			x, e := convoy.Ordered(c, r.Perm(len(c.Ships)))
			if e != api.OK {
				t.Fatal(e)
			}
			v, _ := convoy.Fastest(x, cell)
			tail, _ := convoy.Tail(x, best)
			if v > best || v == best && tail < least {
				t.Fatal("an order is better", c, x, cell, v, tail, best, least)
			}
			if v < best {
				slower++
			}
		}
	}
	if slower < 100 {
		t.Error("too few slower orders", slower)
	}
}

// A convoy is never faster than one of its ships alone in a channel.
func TestShipsAlone(t *testing.T) {
	r := random()
	slower := 0
	for range 1000 {
		c, cell := anyConvoy(r, 6), anyCell(r)
		v, e := convoy.Fastest(c, cell)
		if e != api.OK {
			continue
		}
		for _, m := range c.Ships {
			alone, e := hull.Safe(m.Ship, cell, true)
			if e != api.OK || v > alone {
				t.Fatal(c, cell, v, alone, e)
			}
			if v < alone {
				slower++
			}
		}
	}
	if slower < 300 {
		t.Error("too few convoys that are slower", slower)
	}
}
