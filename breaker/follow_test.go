package breaker_test

import (
	"math/rand/v2"
	"slices"
	"testing"

	"polynya/api"
	"polynya/breaker"
	"polynya/hull"
	"polynya/ice"
)

// P6.6 and P7: what follows.

// ableModel makes a machine in an area in which there is more often a plan.
func ableModel(r *rand.Rand, limit int) model {
	o := anyModel(r, 4, 3, limit)
	o.m.Tank, o.m.Watch, o.m.Wear = 40+r.IntN(161), 10+r.IntN(39), 8+r.IntN(93)
	return o
}

// If there is a plan, Find has one, and no list proves that there is none; if there is none, the front proves it.
func TestPlanOrProof(t *testing.T) {
	r := random()
	plans, none := 0, 0
	for range 400 {
		o := ableModel(r, 10+r.IntN(20))
		s := start(o.m.Tank)
		l, n, e := breaker.Find(o.m, o.a, s)
		front, f := breaker.Front(o.m, o.a, s)
		is, g := breaker.Proves(o.m, o.a, s, front)
		if f != api.OK || g != api.OK || is != (e == api.ErrNone) {
			t.Fatal(o, l, n, e, f, is, g)
		}
		if is {
			none++
			continue
		}
		if k, e := breaker.Verify(o.m, o.a, s, l); k != n || e != api.OK {
			t.Fatal(o, l, n, k, e)
		}
		if len(l) > 3 {
			plans++
		}
		for range 5 {
			// The states before the plan is done would be a proof, if it were not for the ones after them.
			list := slices.DeleteFunc(anyList(r, o, front), func(s breaker.State) bool { return s.Hour >= n && r.IntN(9) > 0 })
			if is, e := breaker.Proves(o.m, o.a, s, list); is || e != api.OK {
				t.Fatal("a plan, and a proof that there is none", o, l, list, e)
			}
		}
	}
	if plans < 80 || none < 50 {
		t.Error("too few plans, or too few without one", plans, none)
	}
}

// What Proves accepts is true: from a state that it accepts no program leads to one that is done.
func TestProofsAreTrue(t *testing.T) {
	r := random()
	proofs := 0
	for range 1000 {
		o := anyModel(r, 3, 2, 3+r.IntN(8))
		s := o.anyState(r)
		s.Hour = r.IntN(3)
		front, _ := breaker.Front(o.m, o.a, s)
		l := anyList(r, o, front)
		if is, e := breaker.Proves(o.m, o.a, s, l); e != api.OK || is && o.firstDone(o.reach(s)) >= 0 {
			t.Fatal(o, s, l, is, e)
		} else if is {
			proofs++
		}
	}
	if proofs < 100 {
		t.Error("too few proofs", proofs)
	}
}

// No plan is done at an earlier hour: no program of many that are tried leads to one.
func TestNoPlanIsEarlier(t *testing.T) {
	r := random()
	done := 0
	for range 300 {
		o := ableModel(r, 20+r.IntN(30))
		s := start(o.m.Tank)
		_, first, e := breaker.Find(o.m, o.a, s)
		for range 30 {
			at := s
			for _, x := range o.anyProgram(r, s, 60) {
				at, _ = breaker.Do(o.m, o.a, at, x)
				if is, _ := breaker.Done(o.m, o.a, at); is {
					done++
					if e != api.OK || at.Hour < first {
						t.Fatal(o, at, first, e)
					}
				}
			}
		}
	}
	if done < 500 {
		t.Error("too few that are done", done)
	}
}

// A state that covers another one can carry out all that the other one can, and covers it still after that.
func TestCoveringStates(t *testing.T) {
	r := random()
	more, after := 0, 0
	for range 4000 {
		o := anyModel(r, 4, 3, 1+r.IntN(30))
		s := o.anyState(r)
		w := o.worse(r, s)
		if is, e := breaker.Covers(o.m, o.a, s, w); !is || e != api.OK {
			t.Fatal(o, s, w, is, e)
		}
		can, _ := breaker.Can(o.m, o.a, s)
		less, e := breaker.Can(o.m, o.a, w)
		if e != api.OK {
			t.Fatal(o, w, e)
		}
		if len(can) > len(less) {
			more++
		}
		for _, x := range less {
			y, e := breaker.Do(o.m, o.a, s, x)
			z, f := breaker.Do(o.m, o.a, w, x)
			is, g := breaker.Covers(o.m, o.a, y, z)
			if !slices.Contains(can, x) || !is || e != api.OK || f != api.OK || g != api.OK {
				t.Fatal(o, s, w, x, y, z, e, f, g)
			}
			after++
		}
	}
	if more < 300 || after < 3000 {
		t.Error("too few that can do more, or too few actions", more, after)
	}
}

// Whatever is carried out: no ship is cut loose while the pressure is above her Calm, none is towed in a pressure of 3 or taken in one above 1, the crew is never awake longer than Watch, and Worn is never above Wear.
func TestWhateverIsCarriedOut(t *testing.T) {
	r := random()
	kinds := [9]int{}
	for range 2000 {
		o := ableModel(r, 60)
		s := start(o.m.Tank)
		for _, x := range o.anyProgram(r, s, 60) {
			y, e := breaker.Do(o.m, o.a, s, x)
			if e != api.OK || y.Hour <= s.Hour || y.Hour > o.a.Limit {
				t.Fatal(o, s, x, y, e)
			}
			most := 3
			switch {
			case x.Kind == breaker.Cut:
				most = o.a.Cases[x.N].Calm
			case x.Kind == breaker.Take:
				most = 1
			case x.Kind == breaker.Go && s.Notch >= 0:
				most = 2
			}
			if !o.calm(s.Hour, y.Hour-s.Hour, most) {
				t.Fatal("too much pressure", o, s, x)
			}
			if y.Awake < 0 || y.Awake > o.m.Watch || y.Worn < 0 || y.Worn > o.m.Wear || y.Fuel < 0 || y.Fuel > o.m.Tank || !o.isState(y) {
				t.Fatal(o, s, x, y)
			}
			kinds[x.Kind]++
			s = y
		}
	}
	if slices.Min(kinds[1:]) < 100 {
		t.Error("too few of a kind", kinds)
	}
}

// The fuel that she has, and has burnt, is what she had, and has taken in; and the hours of all kinds are those that have gone by.
func TestItAddsUp(t *testing.T) {
	r := random()
	taken := 0
	for range 2000 {
		o := ableModel(r, 60)
		s := start(o.m.Tank)
		if r.IntN(2) == 0 {
			s = o.anyState(r)
		}
		l := o.anyProgram(r, s, r.IntN(61))
		x, n, e := breaker.Run(o.m, o.a, s, l)
		c, f := breaker.Spent(o.m, o.a, s, l)
		if n != len(l) || e != api.OK || f != api.OK || x.Fuel+c.Burnt != s.Fuel+c.Taken {
			t.Fatal(o, s, l, x, c, e, f)
		}
		hours := 0
		for kind, n := range c.Hours {
			hours += n
			if is := slices.ContainsFunc(l, func(x breaker.Action) bool { return x.Kind == kind+1 }); is != (n > 0) {
				t.Fatal(o, s, l, c)
			}
		}
		if x.Hour-s.Hour != hours {
			t.Fatal(o, s, l, x, c)
		}
		if c.Taken > 0 {
			taken++
		}
	}
	if taken < 200 {
		t.Error("too few that are filled", taken)
	}
}

// A program in two pieces is the same.
func TestPieces(t *testing.T) {
	r := random()
	for range 500 {
		o := ableModel(r, 60)
		s := start(o.m.Tank)
		l := o.anyProgram(r, s, 40)
		at := r.IntN(len(l) + 1)
		all, _, _ := breaker.Run(o.m, o.a, s, l)
		first, _, _ := breaker.Run(o.m, o.a, s, l[:at])
		last, n, e := breaker.Run(o.m, o.a, first, l[at:])
		if last != all || n != len(l)-at || e != api.OK {
			t.Fatal(o, l, at, all, last, n, e)
		}
		a, _ := breaker.Spent(o.m, o.a, s, l)
		b, _ := breaker.Spent(o.m, o.a, s, l[:at])
		c, _ := breaker.Spent(o.m, o.a, first, l[at:])
		for kind := range a.Hours {
			b.Hours[kind] += c.Hours[kind]
		}
		b.Burnt += c.Burnt
		b.Taken += c.Taken
		if a != b {
			t.Fatal(o, l, at, a, b)
		}
	}
}

// With a greater Tank, a greater Watch or Wear, less Press, or a later Limit no plan is done later.
func TestMoreIsNoLater(t *testing.T) {
	r := random()
	earlier := [5]int{}
	for range 1500 {
		o := anyModel(r, 3, 2, 14+r.IntN(14))
		o.m.Tank += r.IntN(40)
		s := start(o.m.Tank)
		better, b := model{o.m, copied(o.a)}, s
		what := r.IntN(5)
		switch what {
		case 0:
			better.m.Tank += 1 + r.IntN(30)
			if r.IntN(2) == 0 {
				b.Fuel = better.m.Tank
			}
		case 1:
			better.m.Watch += 1 + r.IntN(10)
		case 2:
			better.m.Wear += 1 + r.IntN(10)
		case 3:
			for i, press := range better.a.Press {
				better.a.Press[i] = max(0, press-r.IntN(2))
			}
		case 4:
			better.a.Limit += 1 + r.IntN(10)
		}
		_, n, e := breaker.Find(o.m, o.a, s)
		_, k, f := breaker.Find(better.m, better.a, b)
		if e == api.OK && (f != api.OK || k > n) {
			t.Fatal(o, better, n, e, k, f)
		}
		if f == api.OK && (e != api.OK || k < n) {
			earlier[what]++
		}
	}
	if slices.Min(earlier[:]) < 5 {
		t.Error("too few plans that are done earlier", earlier)
	}
}

// With a pressure of at most Calm a ship that was cut loose can go, whatever the ice; with more there is an ice in which she cannot.
func TestShipsThatCanGo(t *testing.T) {
	r := random()
	less := 0
	for range 400 {
		s := ship()
		s.Brash = 10 * r.IntN(11)
		thick := r.IntN(300)
		c := ice.Cell{Conc: span(r.IntN(90), 100), Thick: span(thick, thick+r.IntN(100)), Ridge: span(0, r.IntN(20)), Press: span(0, 3)}
		calm, e := breaker.Calm(s, c)
		if e != api.OK {
			continue
		}
		for press := range calm + 1 {
			x := ice.Ice{
				Conc: c.Conc.Lo + r.IntN(101-c.Conc.Lo), Thick: c.Thick.Hi - r.IntN(1+c.Thick.Hi-thick), Ridge: r.IntN(c.Ridge.Hi + 1), Press: press,
			}
			if v, e := hull.Speed(s, x, true); v < hull.MinSpeed || e != api.OK {
				t.Fatal(s, c, calm, x, v, e)
			}
		}
		if calm < 3 {
			less++
			x := ice.Ice{Conc: 100, Thick: c.Thick.Hi, Ridge: c.Ridge.Hi, Press: calm + 1}
			if v, e := hull.Speed(s, x, true); v >= hull.MinSpeed || e != api.OK {
				t.Fatal(s, c, calm, x, v, e)
			}
		}
	}
	if less < 20 {
		t.Error("too few ships that a pressure stops", less)
	}
}

// A table of a ship is one of an area, and she is where the legs lead in time.
func TestTablesAreThoseOfAreas(t *testing.T) {
	r := random()
	for range 200 {
		n := 1 + r.IntN(4)
		legs := make([][][]hull.Part, n)
		for i := range legs {
			for range n {
				legs[i] = append(legs[i], append(leg(1+r.IntN(900)), leg(1+r.IntN(900))...))
			}
		}
		l, e := breaker.Table(ship(), legs)
		if e != api.OK {
			t.Fatal(legs, e)
		}
		a := breaker.Area{Hours: l, Press: []int{0}, Limit: 60}
		if e := breaker.Check(machine(), a); e != api.OK {
			t.Fatal(legs, l, e)
		}
		for i, row := range l {
			for k, hours := range row {
				if _, time, _ := hull.Leg(ship(), legs[i][k]); i != k && (time.Hi > 60*hours || time.Hi <= 60*(hours-1)) {
					t.Fatal(legs, i, k, hours, time)
				}
			}
		}
	}
}
