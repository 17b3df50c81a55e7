package breaker_test

import (
	"slices"
	"testing"

	"polynya/api"
	"polynya/breaker"
)

// P6.2: actions and programs.

// The chapter's example 1, action by action.
func TestChapter(t *testing.T) {
	m, a := machine(), area(false)
	l := act(breaker.Go, 1, breaker.Wait, 0, breaker.Wait, 0, breaker.Cut, 0, breaker.Go, 0)
	s := start(60)
	for i, want := range []breaker.State{
		{Hour: 3, Site: 1, Fuel: 54, Awake: 3, Notch: -1},
		{Hour: 4, Site: 1, Fuel: 53, Awake: 4, Notch: -1},
		{Hour: 5, Site: 1, Fuel: 52, Awake: 5, Notch: -1},
		{Hour: 9, Site: 1, Fuel: 36, Awake: 9, Worn: 4, Notch: -1, Cases: [3]int{3}},
		{Hour: 12, Fuel: 30, Awake: 12, Worn: 4, Notch: -1, Cases: [3]int{3}},
	} {
		x, e := breaker.Do(m, a, s, l[i])
		if x != want || e != api.OK {
			t.Error(i, x, e)
		}
		s = want
	}
	if x, n, e := breaker.Run(m, a, start(60), l); x != s || n != 5 || e != api.OK {
		t.Error(x, n, e)
	}
	if c, e := breaker.Spent(m, a, start(60), l); c != (breaker.Account{Hours: [8]int{6, 4, 0, 0, 2}, Burnt: 30}) || e != api.OK {
		t.Error(c, e)
	}
}

// The chapter's example 2.
func TestChapterTow(t *testing.T) {
	m, a := machine(), area(true)
	l := act(breaker.Go, 1, breaker.Wait, 0, breaker.Wait, 0, breaker.Cut, 0, breaker.Take, 0, breaker.Go, 0, breaker.Drop, 0)
	if s, n, e := breaker.Run(m, a, start(60), l); s != (breaker.State{Hour: 17, Fuel: 7, Awake: 17, Worn: 11, Notch: -1, Cases: [3]int{3}}) || n != 7 || e != api.OK {
		t.Error(s, n, e)
	}
	if c, e := breaker.Spent(m, a, start(60), l); c != (breaker.Account{Hours: [8]int{9, 4, 1, 1, 2}, Burnt: 53}) || e != api.OK {
		t.Error(c, e)
	}
}

// Each kind in the wide area, in hours without pressure: what it does.
func TestWhatIsDone(t *testing.T) {
	m := machine()
	for i, c := range []struct {
		s, want breaker.State
		kind, n int
	}{
		{
			breaker.State{Hour: 4, Fuel: 50, Awake: 2, Worn: 5, Notch: -1},
			breaker.State{Hour: 7, Site: 2, Fuel: 44, Awake: 5, Worn: 5, Notch: -1}, breaker.Go, 2,
		},
		{
			breaker.State{Hour: 4, Site: 2, Fuel: 50, Awake: 2, Worn: 5, Notch: -1},
			breaker.State{Hour: 9, Fuel: 40, Awake: 7, Worn: 5, Notch: -1}, breaker.Go, 0,
		},
		{ // towing: twice the hours, Work, and it wears
			breaker.State{Hour: 4, Site: 1, Fuel: 50, Awake: 2, Worn: 5, Notch: 0, Cases: [3]int{2, 0, 1}},
			breaker.State{Hour: 12, Site: 2, Fuel: 18, Awake: 10, Worn: 13, Notch: 0, Cases: [3]int{2, 0, 1}}, breaker.Go, 2,
		},
		{
			breaker.State{Hour: 4, Site: 1, Fuel: 50, Awake: 2, Worn: 5, Notch: -1},
			breaker.State{Hour: 6, Site: 1, Fuel: 42, Awake: 4, Worn: 7, Notch: -1, Cases: [3]int{1}}, breaker.Cut, 0,
		},
		{ // not Towed: done
			breaker.State{Hour: 4, Site: 2, Fuel: 50, Awake: 2, Worn: 5, Notch: -1, Cases: [3]int{1, 0, 3}},
			breaker.State{Hour: 7, Site: 2, Fuel: 38, Awake: 5, Worn: 8, Notch: -1, Cases: [3]int{1, 3, 3}}, breaker.Cut, 1,
		},
		{
			breaker.State{Hour: 4, Site: 1, Fuel: 50, Awake: 2, Worn: 5, Notch: -1, Cases: [3]int{1, 0, 1}},
			breaker.State{Hour: 5, Site: 1, Fuel: 46, Awake: 3, Worn: 6, Notch: 2, Cases: [3]int{1, 0, 2}}, breaker.Take, 2,
		},
		{
			breaker.State{Hour: 4, Site: 2, Fuel: 50, Awake: 2, Worn: 5, Notch: 0, Cases: [3]int{2, 0, 1}},
			breaker.State{Hour: 5, Site: 2, Fuel: 49, Awake: 3, Worn: 5, Notch: -1, Cases: [3]int{3, 0, 1}}, breaker.Drop, 0,
		},
		{
			breaker.State{Hour: 4, Site: 2, Fuel: 50, Awake: 2, Worn: 5, Notch: 0, Cases: [3]int{2, 0, 1}},
			breaker.State{Hour: 5, Site: 2, Fuel: 49, Awake: 3, Worn: 5, Notch: 0, Cases: [3]int{2, 0, 1}}, breaker.Wait, 0,
		},
		{
			breaker.State{Hour: 4, Site: 2, Fuel: 50, Awake: 24, Worn: 5, Notch: -1},
			breaker.State{Hour: 10, Site: 2, Fuel: 44, Worn: 5, Notch: -1}, breaker.Rest, 0,
		},
		{
			breaker.State{Hour: 4, Fuel: 0, Awake: 2, Worn: 5, Notch: -1},
			breaker.State{Hour: 6, Fuel: 60, Awake: 4, Worn: 5, Notch: -1}, breaker.Fill, 0,
		},
		{
			breaker.State{Hour: 4, Fuel: 0, Awake: 24, Worn: 30, Notch: -1},
			breaker.State{Hour: 12, Notch: -1}, breaker.Refit, 0,
		},
	} {
		if s, e := breaker.Do(m, wide(), c.s, breaker.Action{Kind: c.kind, N: c.n}); s != c.want || e != api.OK {
			t.Error(i, s, e)
		}
	}
}

// What is allowed in the wide area, whose pressure is 0, 1, 2, 3, and then 0.
func TestAllowed(t *testing.T) {
	m := machine()
	m.Wear, m.Watch, m.Tank = 100, 48, 200
	for i, c := range []struct {
		s       breaker.State
		kind, n int
		want    api.Errno
	}{
		// Go: to another site; the pressure matters only with a ship in the notch.
		{breaker.State{Site: 1, Notch: -1}, breaker.Go, 1, api.ErrBreaker},
		{breaker.State{Hour: 2, Notch: -1}, breaker.Go, 1, api.OK},
		{breaker.State{Hour: 3, Notch: -1}, breaker.Go, 2, api.OK},
		{breaker.State{Hour: 3, Site: 1, Notch: 2, Cases: [3]int{0, 0, 2}}, breaker.Go, 0, api.ErrBreaker},
		{breaker.State{Hour: 2, Site: 1, Notch: 2, Cases: [3]int{0, 0, 2}}, breaker.Go, 0, api.ErrBreaker},
		// Twice an hour from hour 1 on: the pressures 1 and 2.
		{breaker.State{Hour: 1, Site: 1, Notch: 2, Cases: [3]int{0, 0, 2}}, breaker.Go, 0, api.OK},
		{breaker.State{Hour: 4, Site: 1, Notch: 2, Cases: [3]int{0, 0, 2}}, breaker.Go, 0, api.OK},
		// To a site to which she need not tow it.
		{breaker.State{Hour: 4, Site: 1, Notch: 2, Cases: [3]int{0, 0, 2}}, breaker.Go, 2, api.OK},
		// Cut: two hours at most at 1.
		{breaker.State{Site: 1, Notch: -1}, breaker.Cut, 0, api.OK},
		{breaker.State{Hour: 1, Site: 1, Notch: -1}, breaker.Cut, 0, api.ErrBreaker},
		{breaker.State{Hour: 2, Site: 1, Notch: -1}, breaker.Cut, 0, api.ErrBreaker},
		{breaker.State{Hour: 3, Site: 1, Notch: -1}, breaker.Cut, 0, api.ErrBreaker},
		{breaker.State{Hour: 4, Site: 1, Notch: -1}, breaker.Cut, 0, api.OK},
		{breaker.State{Hour: 3, Site: 1, Notch: -1}, breaker.Cut, 2, api.OK},
		{breaker.State{Hour: 0, Site: 2, Notch: -1}, breaker.Cut, 1, api.OK},
		{breaker.State{Hour: 1, Site: 2, Notch: -1}, breaker.Cut, 1, api.ErrBreaker},
		{breaker.State{Hour: 4, Site: 2, Notch: -1}, breaker.Cut, 0, api.ErrBreaker},
		{breaker.State{Hour: 4, Notch: -1}, breaker.Cut, 0, api.ErrBreaker},
		{breaker.State{Hour: 4, Site: 1, Notch: -1, Cases: [3]int{1}}, breaker.Cut, 0, api.ErrBreaker},
		{breaker.State{Hour: 4, Site: 1, Notch: -1, Cases: [3]int{3}}, breaker.Cut, 0, api.ErrBreaker},
		{breaker.State{Hour: 4, Site: 2, Notch: -1, Cases: [3]int{0, 3}}, breaker.Cut, 1, api.ErrBreaker},
		{breaker.State{Hour: 4, Site: 1, Notch: 2, Cases: [3]int{0, 0, 2}}, breaker.Cut, 0, api.ErrBreaker},
		{breaker.State{Hour: 4, Site: 1, Notch: 0, Cases: [3]int{2}}, breaker.Cut, 0, api.ErrBreaker},
		// Take: a loose ship, at her Site, and at most 1 in this hour.
		{breaker.State{Hour: 0, Site: 1, Notch: -1, Cases: [3]int{1}}, breaker.Take, 0, api.OK},
		{breaker.State{Hour: 1, Site: 1, Notch: -1, Cases: [3]int{1}}, breaker.Take, 0, api.OK},
		{breaker.State{Hour: 2, Site: 1, Notch: -1, Cases: [3]int{1}}, breaker.Take, 0, api.ErrBreaker},
		{breaker.State{Hour: 3, Site: 1, Notch: -1, Cases: [3]int{0, 0, 1}}, breaker.Take, 2, api.ErrBreaker},
		{breaker.State{Hour: 4, Site: 1, Notch: -1, Cases: [3]int{0, 0, 1}}, breaker.Take, 2, api.OK},
		{breaker.State{Hour: 4, Site: 2, Notch: -1, Cases: [3]int{1}}, breaker.Take, 0, api.ErrBreaker},
		{breaker.State{Hour: 4, Site: 1, Notch: -1}, breaker.Take, 0, api.ErrBreaker},
		{breaker.State{Hour: 4, Site: 1, Notch: -1, Cases: [3]int{3}}, breaker.Take, 0, api.ErrBreaker},
		{breaker.State{Hour: 4, Site: 1, Notch: 2, Cases: [3]int{1, 0, 2}}, breaker.Take, 0, api.ErrBreaker},
		{breaker.State{Hour: 4, Site: 1, Notch: 0, Cases: [3]int{2}}, breaker.Take, 0, api.ErrBreaker},
		// Drop: at the site To of the ship in the notch, whatever the pressure.
		{breaker.State{Hour: 3, Site: 2, Notch: 0, Cases: [3]int{2}}, breaker.Drop, 0, api.OK},
		{breaker.State{Hour: 3, Notch: 2, Cases: [3]int{0, 0, 2}}, breaker.Drop, 0, api.OK},
		{breaker.State{Hour: 4, Notch: 0, Cases: [3]int{2}}, breaker.Drop, 0, api.ErrBreaker},
		{breaker.State{Hour: 4, Site: 1, Notch: 0, Cases: [3]int{2}}, breaker.Drop, 0, api.ErrBreaker},
		{breaker.State{Hour: 4, Site: 2, Notch: 2, Cases: [3]int{0, 0, 2}}, breaker.Drop, 0, api.ErrBreaker},
		{breaker.State{Hour: 4, Site: 2, Notch: -1, Cases: [3]int{1}}, breaker.Drop, 0, api.ErrBreaker},
		// Wait: always.
		{breaker.State{Hour: 3, Site: 1, Notch: 0, Cases: [3]int{2}}, breaker.Wait, 0, api.OK},
		{breaker.State{Hour: 3, Site: 1, Notch: -1}, breaker.Wait, 0, api.OK},
		// Rest, Fill and Refit: with an empty notch, the latter two at the base.
		{breaker.State{Hour: 3, Site: 1, Notch: -1}, breaker.Rest, 0, api.OK},
		{breaker.State{Notch: 0, Cases: [3]int{2}}, breaker.Rest, 0, api.ErrBreaker},
		{breaker.State{Hour: 3, Notch: -1}, breaker.Fill, 0, api.OK},
		{breaker.State{Site: 1, Notch: -1}, breaker.Fill, 0, api.ErrBreaker},
		{breaker.State{Notch: 2, Cases: [3]int{0, 0, 2}}, breaker.Fill, 0, api.ErrBreaker},
		{breaker.State{Hour: 3, Notch: -1}, breaker.Refit, 0, api.OK},
		{breaker.State{Site: 2, Notch: -1}, breaker.Refit, 0, api.ErrBreaker},
		{breaker.State{Notch: 2, Cases: [3]int{0, 0, 2}}, breaker.Refit, 0, api.ErrBreaker},
	} {
		c.s.Fuel = 200
		if _, e := breaker.Do(m, wide(), c.s, breaker.Action{Kind: c.kind, N: c.n}); e != c.want {
			t.Error(i, c.s, c.kind, c.n, e)
		}
	}
}

// The last pressure is that of all later hours, too.
func TestLaterPressure(t *testing.T) {
	m, a := machine(), wide()
	a.Press = []int{0, 2}
	for _, hour := range []int{1, 2, 20, 58} {
		s := breaker.State{Hour: hour, Site: 1, Fuel: 60, Notch: -1}
		if _, e := breaker.Do(m, a, s, breaker.Action{Kind: breaker.Cut}); e != api.ErrBreaker {
			t.Error(hour, e)
		}
		if _, e := breaker.Do(m, a, s, breaker.Action{Kind: breaker.Cut, N: 2}); e != api.OK {
			t.Error(hour, e)
		}
	}
	// Hours behind Limit have a pressure, too: it is not allowed, rather than too late.
	s := breaker.State{Hour: 60, Site: 1, Fuel: 60, Notch: -1}
	if _, e := breaker.Do(m, a, s, breaker.Action{Kind: breaker.Cut}); e != api.ErrBreaker {
		t.Error(e)
	}
	a.Press[1] = 0
	if _, e := breaker.Do(m, a, s, breaker.Action{Kind: breaker.Cut}); e != api.ErrTime {
		t.Error(e)
	}
}

// Kinds and numbers that there are not.
func TestCommands(t *testing.T) {
	m, a, s := machine(), wide(), start(60)
	for i, c := range []struct {
		x    breaker.Action
		want api.Errno
	}{
		{breaker.Action{}, api.ErrCommand},
		{breaker.Action{Kind: 9}, api.ErrCommand},
		{breaker.Action{Kind: -1, N: -1}, api.ErrCommand},
		{breaker.Action{Kind: -1 << 63}, api.ErrCommand},
		{breaker.Action{Kind: 1<<63 - 1, N: 7}, api.ErrCommand},
		{breaker.Action{Kind: breaker.Go, N: -1}, api.ErrArg},
		{breaker.Action{Kind: breaker.Go, N: 3}, api.ErrArg},
		{breaker.Action{Kind: breaker.Go, N: 2}, api.OK},
		{breaker.Action{Kind: breaker.Cut, N: 3}, api.ErrArg},
		{breaker.Action{Kind: breaker.Cut, N: -1}, api.ErrArg},
		{breaker.Action{Kind: breaker.Cut, N: 2}, api.ErrBreaker},
		{breaker.Action{Kind: breaker.Take, N: 3}, api.ErrArg},
		{breaker.Action{Kind: breaker.Take, N: -1 << 63}, api.ErrArg},
		{breaker.Action{Kind: breaker.Drop, N: 1}, api.ErrArg},
		{breaker.Action{Kind: breaker.Wait, N: 1}, api.ErrArg},
		{breaker.Action{Kind: breaker.Wait, N: -1}, api.ErrArg},
		{breaker.Action{Kind: breaker.Rest, N: 1}, api.ErrArg},
		{breaker.Action{Kind: breaker.Fill, N: 1}, api.ErrArg},
		{breaker.Action{Kind: breaker.Refit, N: 1<<63 - 1}, api.ErrArg},
	} {
		x, e := breaker.Do(m, a, s, c.x)
		if e != c.want || e != api.OK && x != (breaker.State{}) {
			t.Error(i, x, e)
		}
	}
	// Without cases there is no number for Cut and Take.
	a.Cases = nil
	for _, kind := range []int{breaker.Cut, breaker.Take} {
		if _, e := breaker.Do(m, a, s, breaker.Action{Kind: kind}); e != api.ErrArg {
			t.Error(kind, e)
		}
	}
}

// What suffices just, and what does not: time, fuel, the crew and wear.
func TestEnough(t *testing.T) {
	m, a := machine(), wide()
	a.Press, a.Limit = []int{0}, 40
	for i, c := range []struct {
		s       breaker.State
		kind, n int
		want    api.Errno
	}{
		{breaker.State{Hour: 39, Fuel: 9, Notch: -1}, breaker.Wait, 0, api.OK},
		{breaker.State{Hour: 40, Fuel: 9, Notch: -1}, breaker.Wait, 0, api.ErrTime},
		{breaker.State{Hour: 38, Fuel: 9, Notch: -1}, breaker.Fill, 0, api.OK},
		{breaker.State{Hour: 39, Fuel: 9, Notch: -1}, breaker.Fill, 0, api.ErrTime},
		{breaker.State{Hour: 34, Fuel: 9, Notch: -1}, breaker.Rest, 0, api.OK},
		{breaker.State{Hour: 35, Fuel: 9, Notch: -1}, breaker.Rest, 0, api.ErrTime},
		{breaker.State{Hour: 32, Fuel: 9, Notch: -1}, breaker.Refit, 0, api.OK},
		{breaker.State{Hour: 33, Fuel: 9, Notch: -1}, breaker.Refit, 0, api.ErrTime},
		{breaker.State{Fuel: 1, Notch: -1}, breaker.Wait, 0, api.OK},
		{breaker.State{Fuel: 0, Notch: -1}, breaker.Wait, 0, api.ErrFuel},
		{breaker.State{Fuel: 4, Notch: -1}, breaker.Go, 1, api.OK},
		{breaker.State{Fuel: 3, Notch: -1}, breaker.Go, 1, api.ErrFuel},
		{breaker.State{Fuel: 8, Site: 1, Notch: 2, Cases: [3]int{0, 0, 2}}, breaker.Go, 0, api.OK},
		{breaker.State{Fuel: 7, Site: 1, Notch: 2, Cases: [3]int{0, 0, 2}}, breaker.Go, 0, api.ErrFuel},
		{breaker.State{Fuel: 8, Site: 1, Notch: -1}, breaker.Cut, 0, api.OK},
		{breaker.State{Fuel: 7, Site: 1, Notch: -1}, breaker.Cut, 0, api.ErrFuel},
		{breaker.State{Fuel: 4, Site: 1, Notch: -1, Cases: [3]int{1}}, breaker.Take, 0, api.OK},
		{breaker.State{Fuel: 3, Site: 1, Notch: -1, Cases: [3]int{1}}, breaker.Take, 0, api.ErrFuel},
		{breaker.State{Fuel: 1, Notch: 2, Cases: [3]int{0, 0, 2}}, breaker.Drop, 0, api.OK},
		{breaker.State{Fuel: 0, Notch: 2, Cases: [3]int{0, 0, 2}}, breaker.Drop, 0, api.ErrFuel},
		{breaker.State{Fuel: 6, Notch: -1}, breaker.Rest, 0, api.OK},
		{breaker.State{Fuel: 5, Notch: -1}, breaker.Rest, 0, api.ErrFuel},
		{breaker.State{Fuel: 0, Notch: -1}, breaker.Fill, 0, api.OK},
		{breaker.State{Fuel: 0, Notch: -1}, breaker.Refit, 0, api.OK},
		{breaker.State{Fuel: 60, Awake: 23, Notch: -1}, breaker.Wait, 0, api.OK},
		{breaker.State{Fuel: 60, Awake: 24, Notch: -1}, breaker.Wait, 0, api.ErrRange},
		{breaker.State{Fuel: 60, Awake: 22, Notch: -1}, breaker.Fill, 0, api.OK},
		{breaker.State{Fuel: 60, Awake: 23, Notch: -1}, breaker.Fill, 0, api.ErrRange},
		{breaker.State{Fuel: 60, Awake: 24, Notch: -1}, breaker.Rest, 0, api.OK},
		{breaker.State{Fuel: 60, Awake: 24, Notch: -1}, breaker.Refit, 0, api.OK},
		{breaker.State{Fuel: 60, Awake: 22, Worn: 30, Notch: -1}, breaker.Go, 1, api.OK},
		{breaker.State{Fuel: 60, Awake: 23, Notch: -1}, breaker.Go, 1, api.ErrRange},
		{breaker.State{Fuel: 60, Awake: 22, Site: 1, Notch: 2, Cases: [3]int{0, 0, 2}}, breaker.Go, 0, api.OK},
		{breaker.State{Fuel: 60, Awake: 23, Site: 1, Notch: 2, Cases: [3]int{0, 0, 2}}, breaker.Go, 0, api.ErrRange},
		{breaker.State{Fuel: 60, Worn: 28, Site: 1, Notch: 2, Cases: [3]int{0, 0, 2}}, breaker.Go, 0, api.OK},
		{breaker.State{Fuel: 60, Worn: 29, Site: 1, Notch: 2, Cases: [3]int{0, 0, 2}}, breaker.Go, 0, api.ErrRange},
		{breaker.State{Fuel: 60, Worn: 28, Site: 1, Notch: -1}, breaker.Cut, 0, api.OK},
		{breaker.State{Fuel: 60, Worn: 29, Site: 1, Notch: -1}, breaker.Cut, 0, api.ErrRange},
		{breaker.State{Fuel: 60, Worn: 29, Site: 1, Notch: -1, Cases: [3]int{1}}, breaker.Take, 0, api.OK},
		{breaker.State{Fuel: 60, Worn: 30, Site: 1, Notch: -1, Cases: [3]int{1}}, breaker.Take, 0, api.ErrRange},
		{breaker.State{Fuel: 60, Worn: 30, Notch: 2, Cases: [3]int{0, 0, 2}}, breaker.Drop, 0, api.OK},
		{breaker.State{Fuel: 60, Worn: 30, Notch: -1}, breaker.Wait, 0, api.OK},
		{breaker.State{Fuel: 60, Worn: 30, Notch: -1}, breaker.Refit, 0, api.OK},
		// Of several errors the first one: not allowed, too late, too little fuel, too long awake.
		{breaker.State{Hour: 40, Site: 1, Awake: 24, Worn: 30, Notch: -1, Cases: [3]int{3}}, breaker.Cut, 0, api.ErrBreaker},
		{breaker.State{Hour: 39, Site: 1, Awake: 24, Worn: 30, Notch: -1}, breaker.Cut, 0, api.ErrTime},
		{breaker.State{Hour: 38, Site: 1, Awake: 24, Worn: 30, Notch: -1}, breaker.Cut, 0, api.ErrFuel},
		{breaker.State{Hour: 38, Site: 1, Fuel: 8, Awake: 24, Worn: 30, Notch: -1}, breaker.Cut, 0, api.ErrRange},
		{breaker.State{Hour: 40, Awake: 24, Notch: -1}, breaker.Wait, 0, api.ErrTime},
		{breaker.State{Hour: 39, Awake: 24, Notch: -1}, breaker.Wait, 0, api.ErrFuel},
	} {
		if _, e := breaker.Do(m, a, c.s, breaker.Action{Kind: c.kind, N: c.n}); e != c.want {
			t.Error(i, c.s, c.kind, c.n, e)
		}
	}
}

// All actions in many states, compared with the words of the document.
func TestActionsOfAnyState(t *testing.T) {
	r := random()
	seen := map[api.Errno]int{}
	kinds := [9]int{}
	for range 6000 {
		o := anyModel(r, 4, 3, 1+r.IntN(30))
		s := o.anyState(r)
		for kind := 0; kind <= 9; kind++ {
			for n := -1; n <= 4; n++ {
				x := breaker.Action{Kind: kind, N: n}
				want, f := o.do(s, x)
				got, e := breaker.Do(o.m, o.a, s, x)
				if got != want || e != f {
					t.Fatal(o, s, x, got, e, want, f)
				}
				seen[e]++
				if e == api.OK {
					kinds[kind]++
					if is, e := breaker.Done(o.m, o.a, got); is != o.done(got) || e != api.OK {
						t.Fatal("a state that is none, or not done", o, s, x, got, is, e)
					}
				}
			}
		}
		can, _ := o.can(s)
		if l, e := breaker.Can(o.m, o.a, s); !slices.Equal(l, can) || e != api.OK {
			t.Fatal(o, s, l, e, can)
		}
	}
	for _, e := range []api.Errno{api.OK, api.ErrBreaker, api.ErrTime, api.ErrFuel, api.ErrRange} {
		if seen[e] < 200 {
			t.Error("too few of", e, seen)
		}
	}
	for kind, n := range kinds {
		if kind > 0 && n < 50 {
			t.Error("too few of kind", kind, kinds)
		}
	}
}

func TestRun(t *testing.T) {
	m, a, s := machine(), area(false), start(60)
	at := breaker.State{Hour: 3, Site: 1, Fuel: 54, Awake: 3, Notch: -1}
	rest := act(breaker.Wait, 0, breaker.Wait, 0)
	for i, c := range []struct {
		l    []breaker.Action
		want breaker.State
		n    int
		e    api.Errno
	}{
		{nil, s, 0, api.OK},
		{act(breaker.Go, 1), at, 1, api.OK},
		// The first action with an error ends it, whatever comes then.
		{append(act(breaker.Go, 1, breaker.Cut, 0), rest...), at, 1, api.ErrBreaker},
		{append(act(breaker.Go, 1, 0, 0), rest...), at, 1, api.ErrCommand},
		{append(act(breaker.Go, 1, breaker.Go, 2), rest...), at, 1, api.ErrArg},
		{act(breaker.Go, 1, breaker.Wait, 0, breaker.Cut, 1, 9, 0), breaker.State{Hour: 4, Site: 1, Fuel: 53, Awake: 4, Notch: -1}, 2, api.ErrArg},
		{act(9, 0), s, 0, api.ErrCommand},
		{slices.Repeat(rest, 50), breaker.State{Hour: 24, Fuel: 36, Awake: 24, Notch: -1}, 24, api.ErrRange},
		{append(slices.Repeat(rest, 50), rest[0]), breaker.State{}, 0, api.ErrMany},
		{make([]breaker.Action, 101), breaker.State{}, 0, api.ErrMany},
		{slices.Repeat(act(breaker.Rest, 0), 7), breaker.State{Hour: 36, Fuel: 24, Notch: -1}, 6, api.ErrTime},
		{slices.Repeat(act(breaker.Refit, 0), 5), breaker.State{Hour: 40, Fuel: 60, Notch: -1}, 5, api.OK},
		{slices.Repeat(act(breaker.Go, 1, breaker.Go, 0), 4), breaker.State{Hour: 24, Fuel: 12, Awake: 24, Notch: -1}, 8, api.OK},
	} {
		if x, n, e := breaker.Run(m, a, s, c.l); x != c.want || n != c.n || e != c.e {
			t.Error(i, x, n, e)
		}
		// Spent has these errors, and no other result then.
		x, e := breaker.Spent(m, a, s, c.l)
		if e != c.e || e != api.OK && x != (breaker.Account{}) {
			t.Error(i, x, e)
		}
	}
	m.Tank = 20
	if x, n, e := breaker.Run(m, a, start(20), slices.Repeat(act(breaker.Go, 1, breaker.Go, 0), 4)); x.Fuel != 2 || n != 3 || e != api.ErrFuel {
		t.Error(x, n, e)
	}
}

func TestSpent(t *testing.T) {
	m := machine()
	for i, c := range []struct {
		a    breaker.Area
		s    breaker.State
		l    []breaker.Action
		want breaker.Account
	}{
		{area(false), start(60), nil, breaker.Account{}},
		{area(false), start(60), act(breaker.Fill, 0), breaker.Account{Hours: [8]int{6: 2}}},
		{area(false), start(1), act(breaker.Fill, 0), breaker.Account{Hours: [8]int{6: 2}, Taken: 59}},
		{area(false), start(60), act(breaker.Rest, 0, breaker.Fill, 0, breaker.Refit, 0, breaker.Wait, 0, breaker.Fill, 0), breaker.Account{Hours: [8]int{4: 1, 5: 6, 6: 4, 7: 8}, Burnt: 7, Taken: 7}},
		{area(false), start(60), act(breaker.Go, 1, breaker.Go, 0, breaker.Fill, 0, breaker.Go, 1), breaker.Account{Hours: [8]int{0: 9, 6: 2}, Burnt: 18, Taken: 12}},
		{wide(), breaker.State{Hour: 5, Site: 1, Fuel: 40, Notch: -1, Cases: [3]int{1}}, act(breaker.Take, 0, breaker.Wait, 0, breaker.Go, 0), breaker.Account{Hours: [8]int{2, 0, 1, 0, 1}, Burnt: 13}},
	} {
		if x, e := breaker.Spent(m, c.a, c.s, c.l); x != c.want || e != api.OK {
			t.Error(i, x, e)
		}
	}
}
