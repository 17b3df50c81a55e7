package breaker_test

import (
	"math/rand/v2"
	"slices"
	"testing"

	"polynya/api"
	"polynya/breaker"
)

// P6.2: which state covers which; and P6.4: fronts and proofs.

func TestCovers(t *testing.T) {
	m, a := machine(), wide()
	s := breaker.State{Hour: 9, Site: 1, Fuel: 30, Awake: 6, Worn: 5, Notch: -1, Cases: [3]int{1, 0, 3}}
	for i, c := range []struct {
		change func(s *breaker.State)
		there  bool // s covers it
		back   bool // it covers s
	}{
		{func(s *breaker.State) {}, true, true},
		{func(s *breaker.State) { s.Fuel-- }, true, false},
		{func(s *breaker.State) { s.Fuel++ }, false, true},
		{func(s *breaker.State) { s.Awake++ }, true, false},
		{func(s *breaker.State) { s.Awake-- }, false, true},
		{func(s *breaker.State) { s.Worn++ }, true, false},
		{func(s *breaker.State) { s.Worn-- }, false, true},
		{func(s *breaker.State) { s.Fuel, s.Awake, s.Worn = 0, 24, 30 }, true, false},
		{func(s *breaker.State) { s.Fuel++; s.Awake++ }, false, false},
		{func(s *breaker.State) { s.Worn--; s.Awake++ }, false, false},
		{func(s *breaker.State) { s.Fuel--; s.Worn-- }, false, false},
		{func(s *breaker.State) { s.Hour++ }, false, false},
		{func(s *breaker.State) { s.Hour-- }, false, false},
		{func(s *breaker.State) { s.Site = 0; s.Fuel-- }, false, false},
		{func(s *breaker.State) { s.Cases[1] = 3; s.Fuel-- }, false, false},
		{func(s *breaker.State) { s.Cases[0] = 3; s.Fuel++ }, false, false},
		{func(s *breaker.State) { s.Cases[0], s.Notch = 2, 0 }, false, false},
	} {
		x := s
		c.change(&x)
		if is, e := breaker.Covers(m, a, s, x); is != c.there || e != api.OK {
			t.Error(i, is, e)
		}
		if is, e := breaker.Covers(m, a, x, s); is != c.back || e != api.OK {
			t.Error(i, "back", is, e)
		}
	}
}

// A base alone, without cases: hour after hour.
func TestFrontOfABase(t *testing.T) {
	m := machine()
	a := breaker.Area{Hours: square(1), Press: []int{0}, Limit: 2}
	for i, c := range []struct {
		rest  int
		limit int
		s     breaker.State
		want  []breaker.State
	}{
		{6, 0, start(60), []breaker.State{start(60)}},
		{6, 2, start(60), []breaker.State{start(60), {Hour: 1, Fuel: 59, Awake: 1, Notch: -1}, {Hour: 2, Fuel: 60, Awake: 2, Notch: -1}}},
		{6, 2, start(0), []breaker.State{start(0), {Hour: 2, Fuel: 60, Awake: 2, Notch: -1}}},
		{6, 2, breaker.State{Hour: 1, Fuel: 7, Notch: -1}, []breaker.State{{Hour: 1, Fuel: 7, Notch: -1}, {Hour: 2, Fuel: 6, Awake: 1, Notch: -1}}},
		// A rest of an hour is better than to wait; to fill takes two hours of being awake.
		{1, 2, start(60), []breaker.State{start(60), {Hour: 1, Fuel: 59, Notch: -1}, {Hour: 2, Fuel: 58, Notch: -1}, {Hour: 2, Fuel: 60, Awake: 2, Notch: -1}}},
	} {
		m.Rest, a.Limit = c.rest, c.limit
		if l, e := breaker.Front(m, a, c.s); !slices.Equal(l, c.want) || e != api.OK {
			t.Error(i, l, e)
		}
	}
}

// The order: by Hour, Site, Cases, Notch, Fuel, Awake and Worn.
func TestOrderOfAFront(t *testing.T) {
	m := machine()
	m.Tank, m.Watch, m.Wear, m.Rest, m.Refit = 150, 48, 80, 2, 3
	a := wide()
	a.Press, a.Limit = []int{0}, 30
	l, e := breaker.Front(m, a, start(150))
	if e != api.OK || !slices.IsSortedFunc(l, inOrder) {
		t.Fatal(len(l), e)
	}
	// Where two that follow each other differ first.
	seen := [9]int{}
	for i, s := range l[1:] {
		u := l[i]
		for k, n := range [][2]int{
			{u.Hour, s.Hour}, {u.Site, s.Site}, {u.Cases[0], s.Cases[0]}, {u.Cases[1], s.Cases[1]}, {u.Cases[2], s.Cases[2]},
			{u.Notch, s.Notch}, {u.Fuel, s.Fuel}, {u.Awake, s.Awake}, {u.Worn, s.Worn},
		} {
			if n[0] != n[1] {
				seen[k]++
				if n[0] > n[1] {
					t.Fatal(u, s)
				}
				break
			}
		}
	}
	// Notch follows from Cases. With equal Fuel there are still differences in Awake.
	for _, k := range []int{0, 1, 2, 3, 4, 6, 7} {
		if seen[k] == 0 {
			t.Error("no two states that differ there first", k, seen)
		}
	}
}

// Fronts compared with all states to which programs lead.
func TestFrontsOfAnyMachine(t *testing.T) {
	r := random()
	fewer := 0
	for range 800 {
		o := anyModel(r, 3, 2, 4+r.IntN(8))
		s := start(o.m.Tank)
		if r.IntN(2) == 0 {
			s = o.anyState(r)
		}
		all := o.reach(s)
		if len(all) > 3000 {
			continue
		}
		want := frontOf(all)
		l, e := breaker.Front(o.m, o.a, s)
		if !slices.Equal(l, want) || e != api.OK {
			t.Fatal(o, s, len(l), len(want), e)
		}
		if len(want) < len(all) && len(want) > 40 {
			fewer++
		}
	}
	if fewer < 50 {
		t.Error("too few fronts with fewer states", fewer)
	}
}

// large is a machine with a front of 30000 states just, if the Limit is 44, and another one of 30001, if it is 43.
func large(most bool) (breaker.Machine, breaker.Area) {
	a := breaker.Area{Hours: [][]int{{0, 1, 1, 1}, {2, 0, 1, 1}, {2, 1, 0, 2}, {2, 2, 1, 0}}}
	if most {
		a.Press = []int{2, 2, 2, 0, 0, 0, 1, 2, 0, 1, 2, 1, 0, 1, 2, 0, 2, 1, 1, 1, 1, 0, 2}
		a.Cases = []breaker.Case{{Site: 2, To: 3, Cut: 4, Calm: 3, Towed: true}, {Site: 2, To: 2, Cut: 5, Calm: 3, Towed: true}, {Site: 0, To: 2, Cut: 3, Calm: 2, Towed: true}}
		a.Limit = 44
		return breaker.Machine{Tank: 132, Idle: 1, Steam: 3, Work: 0, Watch: 37, Rest: 2, Wear: 35, Refit: 2}, a
	}
	a.Press = []int{2, 2, 2, 1, 0, 0, 1, 0, 2, 2, 0, 2, 0, 0, 2, 0, 2, 0, 1, 3, 0, 0, 2}
	a.Cases = []breaker.Case{{Site: 2, To: 0, Cut: 4, Calm: 3, Towed: true}, {Site: 2, To: 2, Cut: 1, Calm: 3, Towed: true}, {Site: 0, To: 2, Cut: 3, Calm: 2, Towed: true}}
	a.Limit = 43
	return breaker.Machine{Tank: 176, Idle: 1, Steam: 3, Work: 0, Watch: 30, Rest: 4, Wear: 82, Refit: 2}, a
}

func TestLargeFronts(t *testing.T) {
	m, a := large(true)
	if l, e := breaker.Front(m, a, start(m.Tank)); len(l) != 30000 || e != api.OK {
		t.Error(len(l), e)
	}
	a.Limit++
	if l, e := breaker.Front(m, a, start(m.Tank)); len(l) != 0 || e != api.ErrLarge {
		t.Error(len(l), e)
	}
	m, a = large(false)
	if l, e := breaker.Front(m, a, start(m.Tank)); len(l) != 0 || e != api.ErrLarge {
		t.Error(len(l), e)
	}
	a.Limit--
	if l, e := breaker.Front(m, a, start(m.Tank)); len(l) < 20000 || e != api.OK {
		t.Error(len(l), e)
	}
}

// Find answers even where the front has more states: the pressure is never at most 1 for the ten hours that the ship of case 2 needs.
func TestPlansOfALargeFront(t *testing.T) {
	m := breaker.Machine{Tank: 169, Idle: 1, Steam: 1, Work: 0, Watch: 42, Rest: 4, Wear: 61, Refit: 1}
	a := breaker.Area{
		Hours: square(4), Limit: 60,
		Press: []int{0, 2, 2, 2, 0, 0, 2, 1, 0, 0, 1, 0, 0, 2, 1, 0, 0, 1, 0, 0, 1, 0, 1, 0, 0, 2, 0, 0, 1, 2},
		Cases: []breaker.Case{{Site: 2, To: 3, Cut: 2, Calm: 3, Towed: true}, {Site: 2, To: 1, Cut: 3, Calm: 3, Towed: true}, {Site: 1, To: 3, Cut: 10, Calm: 1, Towed: true}},
	}
	if l, e := breaker.Front(m, a, start(m.Tank)); len(l) != 0 || e != api.ErrLarge {
		t.Error(len(l), e)
	}
	if l, n, e := breaker.Find(m, a, start(m.Tank)); len(l) != 0 || n != 0 || e != api.ErrNone {
		t.Error(l, n, e)
	}
}

// idle is the base alone, with a ship that cannot be cut loose; and a proof of it.
func idle() (breaker.Machine, breaker.Area, []breaker.State) {
	a := breaker.Area{Hours: square(1), Press: []int{1}, Cases: []breaker.Case{{Cut: 1}}, Limit: 2}
	return machine(), a, []breaker.State{{Hour: 2, Fuel: 60, Awake: 2, Notch: -1}, {Hour: 1, Fuel: 60, Awake: 1, Notch: -1}, start(60)}
}

func TestProves(t *testing.T) {
	for i, c := range []struct {
		change func(a *breaker.Area, s *breaker.State, l []breaker.State) []breaker.State
		want   bool
	}{
		{func(a *breaker.Area, s *breaker.State, l []breaker.State) []breaker.State { return l }, true},
		{func(a *breaker.Area, s *breaker.State, l []breaker.State) []breaker.State {
			slices.Reverse(l)
			return l
		}, true},
		// Each one is needed.
		{func(a *breaker.Area, s *breaker.State, l []breaker.State) []breaker.State { return l[1:] }, false},
		{func(a *breaker.Area, s *breaker.State, l []breaker.State) []breaker.State { return l[:2] }, false},
		{func(a *breaker.Area, s *breaker.State, l []breaker.State) []breaker.State {
			return []breaker.State{l[0], l[2]}
		}, false},
		{func(a *breaker.Area, s *breaker.State, l []breaker.State) []breaker.State { return nil }, false},
		// The state before the first one is covered, and need not be in the list.
		{func(a *breaker.Area, s *breaker.State, l []breaker.State) []breaker.State {
			s.Fuel, s.Awake, s.Worn = 7, 9, 11
			return l
		}, true},
		{func(a *breaker.Area, s *breaker.State, l []breaker.State) []breaker.State {
			l[2].Worn = 1
			return l
		}, false},
		{func(a *breaker.Area, s *breaker.State, l []breaker.State) []breaker.State {
			l[2].Worn, s.Worn = 1, 1
			return l
		}, true},
		{func(a *breaker.Area, s *breaker.State, l []breaker.State) []breaker.State {
			s.Hour = 2
			return l[:1]
		}, false},
		{func(a *breaker.Area, s *breaker.State, l []breaker.State) []breaker.State {
			s.Hour, s.Awake = 2, 2
			return l[:1]
		}, true},
		// What follows must be covered: she can fill until hour 2, which takes two hours of being awake.
		{func(a *breaker.Area, s *breaker.State, l []breaker.State) []breaker.State {
			l[0].Fuel = 59
			return l
		}, false},
		{func(a *breaker.Area, s *breaker.State, l []breaker.State) []breaker.State {
			l[0].Awake = 3
			return l
		}, false},
		{func(a *breaker.Area, s *breaker.State, l []breaker.State) []breaker.State {
			l[0].Awake = 0
			return l
		}, true},
		// More than there need be does no harm, if it is closed, too: the last one here is not.
		{func(a *breaker.Area, s *breaker.State, l []breaker.State) []breaker.State {
			return append(l, breaker.State{Hour: 1, Fuel: 8, Awake: 20, Worn: 3, Notch: -1})
		}, true},
		{func(a *breaker.Area, s *breaker.State, l []breaker.State) []breaker.State {
			return append(l, l...)
		}, true},
		{func(a *breaker.Area, s *breaker.State, l []breaker.State) []breaker.State {
			return append(l, breaker.State{Hour: 1, Fuel: 8, Notch: -1})
		}, false},
		{func(a *breaker.Area, s *breaker.State, l []breaker.State) []breaker.State {
			return append(l, breaker.State{Hour: 2, Notch: -1})
		}, true},
		// One that is done proves nothing, wherever it is.
		{func(a *breaker.Area, s *breaker.State, l []breaker.State) []breaker.State {
			return append(l, breaker.State{Hour: 2, Fuel: 5, Notch: -1, Cases: [3]int{3}})
		}, false},
		{func(a *breaker.Area, s *breaker.State, l []breaker.State) []breaker.State {
			a.Cases = nil
			return l
		}, false},
		// If the ship can be cut loose, it is done then.
		{func(a *breaker.Area, s *breaker.State, l []breaker.State) []breaker.State {
			a.Press = []int{0}
			return l
		}, false},
		{func(a *breaker.Area, s *breaker.State, l []breaker.State) []breaker.State {
			a.Cases[0].Calm = 1
			return append(l, breaker.State{Hour: 1, Fuel: 60, Notch: -1, Cases: [3]int{3}}, breaker.State{Hour: 2, Fuel: 60, Notch: -1, Cases: [3]int{3}})
		}, false},
	} {
		m, a, l := idle()
		s := start(60)
		l = c.change(&a, &s, l)
		if is, e := breaker.Proves(m, a, s, l); is != c.want || e != api.OK {
			t.Error(i, is, e)
		}
		if o := (model{m, a}); o.proves(s, l) != c.want {
			t.Error(i, "the model")
		}
	}
}

func TestProvesErrors(t *testing.T) {
	m, a, l := idle()
	for i, c := range []struct {
		s    breaker.State
		l    []breaker.State
		is   bool
		want api.Errno
	}{
		{start(60), slices.Repeat(l, 10000), true, api.OK},
		{start(60), append(slices.Repeat(l, 10000), l[0]), false, api.ErrLarge},
		{start(60), make([]breaker.State, 30001), false, api.ErrLarge},
		{start(60), make([]breaker.State, 30000), false, api.ErrState},
		{start(61), make([]breaker.State, 30001), false, api.ErrState},
		{start(60), append([]breaker.State{start(61)}, l...), false, api.ErrState},
		{start(60), append(slices.Clone(l), start(-1)), false, api.ErrState},
		// A state that is none comes before all that a list could prove.
		{start(60), []breaker.State{{Hour: 3, Notch: -1}}, false, api.ErrState},
		{start(60), []breaker.State{{Fuel: 9, Notch: -1, Cases: [3]int{3}}, {Hour: 3, Notch: -1}}, false, api.ErrState},
		{start(60), append(l[1:2:2], breaker.State{Notch: 0}), false, api.ErrState},
	} {
		if is, e := breaker.Proves(m, a, c.s, c.l); is != c.is || e != c.want {
			t.Error(i, is, e)
		}
	}
}

// anyList makes a list that is nearly a proof: the front, with something changed now and then.
func anyList(r *rand.Rand, o model, front []breaker.State) []breaker.State {
	l := slices.Clone(front)
	r.Shuffle(len(l), func(i, k int) { l[i], l[k] = l[k], l[i] })
	for range r.IntN(3) {
		if len(l) == 0 {
			break
		}
		i := r.IntN(len(l))
		switch r.IntN(4) {
		case 0:
			l = slices.Delete(l, i, i+1)
		case 1:
			l[i] = o.worse(r, l[i])
		case 2:
			l = append(l, o.worse(r, l[i]))
		case 3:
			l = append(l, o.anyState(r))
		}
	}
	return l
}

// Many lists, compared with what the words of the document say of a proof.
func TestProofsOfAnyMachine(t *testing.T) {
	r := random()
	proofs, others := 0, 0
	for range 1500 {
		o := anyModel(r, 3, 2, 3+r.IntN(7))
		s := start(o.m.Tank)
		front, e := breaker.Front(o.m, o.a, s)
		if len(front) > 400 || e != api.OK {
			continue
		}
		l := anyList(r, o, front)
		if r.IntN(2) == 0 {
			s = o.worse(r, s)
		}
		want := o.proves(s, l)
		if is, e := breaker.Proves(o.m, o.a, s, l); is != want || e != api.OK {
			t.Fatal(o, s, l, is, e, want)
		}
		if want {
			proofs++
		} else if o.proves(s, front) {
			others++
		}
	}
	if proofs < 100 || others < 100 {
		t.Error("too few proofs, or too few that are nearly proofs", proofs, others)
	}
}
