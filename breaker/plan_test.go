package breaker_test

import (
	"slices"
	"testing"

	"polynya/api"
	"polynya/breaker"
)

// P6.3: plans.

// The chapter's examples: when the first plan is done, -1 if there is none.
func TestChapterPlans(t *testing.T) {
	for i, c := range []struct {
		towed        bool
		limit, watch int
		want         int
	}{
		{false, 40, 24, 12}, {false, 12, 24, 12}, {false, 11, 24, -1},
		{true, 40, 24, 17}, {true, 17, 24, 17}, {true, 16, 24, -1},
		{false, 40, 10, 16}, {false, 16, 10, 16}, {false, 15, 10, -1},
	} {
		m, a := machine(), area(c.towed)
		m.Watch, a.Limit = c.watch, c.limit
		l, n, e := breaker.Find(m, a, start(60))
		if c.want < 0 {
			if len(l) > 0 || n != 0 || e != api.ErrNone {
				t.Error(i, l, n, e)
			}
			continue
		}
		if n != c.want || e != api.OK {
			t.Error(i, l, n, e)
		}
		if k, e := breaker.Verify(m, a, start(60), l); k != c.want || e != api.OK {
			t.Error(i, l, k, e)
		}
	}
}

// Machines and areas in which a plan needs an action of each kind.
func TestPlans(t *testing.T) {
	for i, c := range []struct {
		change func(m *breaker.Machine, a *breaker.Area)
		s      breaker.State
		want   int
	}{
		// All is done: the empty program.
		{func(m *breaker.Machine, a *breaker.Area) {}, breaker.State{Hour: 7, Notch: -1, Cases: [3]int{3}}, 7},
		{func(m *breaker.Machine, a *breaker.Area) { a.Cases = nil }, breaker.State{Hour: 40, Notch: -1}, 40},
		{func(m *breaker.Machine, a *breaker.Area) { a.Cases = nil }, breaker.State{Site: 1, Fuel: 6, Notch: -1}, 3},
		{func(m *breaker.Machine, a *breaker.Area) { a.Cases = nil }, breaker.State{Site: 1, Fuel: 5, Notch: -1}, -1},
		{func(m *breaker.Machine, a *breaker.Area) { a.Cases = nil }, breaker.State{Hour: 38, Site: 1, Fuel: 60, Notch: -1}, -1},
		// Too little fuel at first: she fills it, rather than wait.
		{func(m *breaker.Machine, a *breaker.Area) {}, breaker.State{Fuel: 27, Notch: -1}, 12},
		{func(m *breaker.Machine, a *breaker.Area) { m.Tank = 28 }, breaker.State{Fuel: 27, Notch: -1}, 12},
		{func(m *breaker.Machine, a *breaker.Area) { m.Tank = 27 }, breaker.State{Fuel: 27, Notch: -1}, -1},
		// Worn at first: she is refitted.
		{func(m *breaker.Machine, a *breaker.Area) {}, breaker.State{Fuel: 60, Worn: 26, Notch: -1}, 12},
		{func(m *breaker.Machine, a *breaker.Area) {}, breaker.State{Fuel: 60, Worn: 27, Notch: -1}, 18},
		{func(m *breaker.Machine, a *breaker.Area) { m.Refit = 2 }, breaker.State{Fuel: 60, Worn: 27, Notch: -1}, 12},
		{func(m *breaker.Machine, a *breaker.Area) { m.Wear = 3 }, breaker.State{Fuel: 60, Notch: -1}, -1},
		// She comes when the pressure is low just long enough.
		{func(m *breaker.Machine, a *breaker.Area) { a.Press = []int{3, 3, 3, 1, 1, 1, 1, 3} }, breaker.State{Fuel: 60, Notch: -1}, 10},
		{func(m *breaker.Machine, a *breaker.Area) { a.Press = []int{3, 3, 3, 1, 1, 1, 2, 1} }, breaker.State{Fuel: 60, Notch: -1}, 14},
		{func(m *breaker.Machine, a *breaker.Area) { a.Press = []int{0, 0, 0, 1, 1, 1, 2} }, breaker.State{Fuel: 60, Notch: -1}, -1},
		// The ship is where she begins.
		{func(m *breaker.Machine, a *breaker.Area) { a.Cases[0].Site, a.Press = 0, []int{0} }, breaker.State{Fuel: 60, Notch: -1}, 4},
		// Two ships to be towed from the other site, one after the other: 3, 1 and 1, 6 and 1; and so again.
		{func(m *breaker.Machine, a *breaker.Area) {
			m.Tank, m.Watch, m.Wear = 200, 48, 100
			a.Press, a.Cases = []int{0}, slices.Repeat([]breaker.Case{{Site: 1, Cut: 1, Towed: true}}, 2)
		}, breaker.State{Fuel: 200, Notch: -1}, 24},
		// Between them she is filled, refitted for the crew and wear, or the crew rests.
		{func(m *breaker.Machine, a *breaker.Area) {
			m.Tank, m.Watch, m.Wear = 60, 48, 100
			a.Press, a.Cases = []int{0}, slices.Repeat([]breaker.Case{{Site: 1, Cut: 1, Towed: true}}, 2)
		}, breaker.State{Fuel: 60, Notch: -1}, 26},
		{func(m *breaker.Machine, a *breaker.Area) {
			m.Tank, m.Watch, m.Wear = 200, 48, 15
			a.Press, a.Cases = []int{0}, slices.Repeat([]breaker.Case{{Site: 1, Cut: 1, Towed: true}}, 2)
		}, breaker.State{Fuel: 200, Notch: -1}, 32},
		{func(m *breaker.Machine, a *breaker.Area) {
			m.Tank, m.Watch, m.Wear = 200, 23, 100
			a.Press, a.Cases = []int{0}, slices.Repeat([]breaker.Case{{Site: 1, Cut: 1, Towed: true}}, 2)
		}, breaker.State{Fuel: 200, Notch: -1}, 30},
		{func(m *breaker.Machine, a *breaker.Area) {
			m.Tank, m.Watch, m.Wear = 60, 23, 15
			a.Press, a.Cases = []int{0}, slices.Repeat([]breaker.Case{{Site: 1, Cut: 1, Towed: true}}, 2)
		}, breaker.State{Fuel: 60, Notch: -1}, 34},
		// The ship in the notch must be dropped where it belongs, and she come back.
		{func(m *breaker.Machine, a *breaker.Area) {
			a.Cases[0].To, a.Cases[0].Towed, a.Press = 1, true, []int{0}
		}, breaker.State{Hour: 5, Fuel: 60, Site: 1, Notch: 0, Cases: [3]int{2}}, 9},
		{func(m *breaker.Machine, a *breaker.Area) { a.Cases[0].Towed, a.Press = true, []int{3} }, breaker.State{Hour: 5, Fuel: 60, Site: 1, Notch: 0, Cases: [3]int{2}}, -1},
	} {
		m, a := machine(), area(false)
		c.change(&m, &a)
		l, n, e := breaker.Find(m, a, c.s)
		if c.want < 0 {
			if len(l) > 0 || n != 0 || e != api.ErrNone {
				t.Error(i, l, n, e)
			}
			continue
		}
		if n != c.want || e != api.OK || (len(l) == 0) != (n == c.s.Hour) {
			t.Error(i, l, n, e)
		}
		if k, e := breaker.Verify(m, a, c.s, l); k != n || e != api.OK {
			t.Error(i, l, k, e)
		}
	}
}

func TestVerify(t *testing.T) {
	m, a, s := machine(), area(false), start(60)
	plan := act(breaker.Go, 1, breaker.Wait, 0, breaker.Wait, 0, breaker.Cut, 0, breaker.Go, 0)
	slow := append(act(breaker.Rest, 0), act(breaker.Go, 1, breaker.Cut, 0, breaker.Rest, 0, breaker.Go, 0)...)
	for i, c := range []struct {
		l    []breaker.Action
		want int
		e    api.Errno
	}{
		{plan, 12, api.OK},
		// A plan need not be the first one, and may go on when it is done.
		{slow, 22, api.OK},
		{append(slices.Clone(plan), act(breaker.Wait, 0, breaker.Refit, 0)...), 21, api.OK},
		// It must be done at its end.
		{append(slices.Clone(plan), act(breaker.Go, 1)...), 0, api.ErrFalse},
		{plan[:4], 0, api.ErrFalse},
		{nil, 0, api.ErrFalse},
		// Each action must be one that can be carried out.
		{append(slices.Clone(plan), act(9, 0)...), 0, api.ErrFalse},
		{append(slices.Clone(plan), act(breaker.Wait, 1)...), 0, api.ErrFalse},
		{append(slices.Clone(plan), act(breaker.Cut, 0)...), 0, api.ErrFalse},
		{append(slices.Clone(plan), slices.Repeat(act(breaker.Rest, 0), 5)...), 0, api.ErrFalse},
		{plan[1:], 0, api.ErrFalse},
		{make([]breaker.Action, 100), 0, api.ErrFalse},
		{make([]breaker.Action, 101), 0, api.ErrMany},
		{append(slices.Clone(plan), slices.Repeat(act(breaker.Wait, 0), 96)...), 0, api.ErrMany},
	} {
		if n, e := breaker.Verify(m, a, s, c.l); n != c.want || e != c.e {
			t.Error(i, n, e)
		}
	}
	if n, e := breaker.Verify(m, a, breaker.State{Hour: 7, Notch: -1, Cases: [3]int{3}}, nil); n != 7 || e != api.OK {
		t.Error("the empty plan", n, e)
	}
}

// The first plan, compared with all states to which programs lead.
func TestPlansOfAnyMachine(t *testing.T) {
	r := random()
	plans, none := 0, 0
	for range 1500 {
		o := anyModel(r, 3, 2, 4+r.IntN(9))
		s := start(o.m.Tank)
		if r.IntN(2) == 0 {
			s = o.anyState(r)
		}
		want := o.firstDone(o.reach(s))
		l, n, e := breaker.Find(o.m, o.a, s)
		if want < 0 {
			none++
			if len(l) > 0 || n != 0 || e != api.ErrNone {
				t.Fatal(o, s, l, n, e)
			}
			continue
		}
		if n != want || e != api.OK {
			t.Fatal(o, s, l, n, e, want)
		}
		if len(l) > 1 {
			plans++
		}
		last, steps, e := breaker.Run(o.m, o.a, s, l)
		if steps != len(l) || last.Hour != want || !o.done(last) || e != api.OK {
			t.Fatal(o, s, l, last, steps, e)
		}
		if k, e := breaker.Verify(o.m, o.a, s, l); k != want || e != api.OK {
			t.Fatal(o, s, l, k, e)
		}
	}
	if plans < 150 || none < 300 {
		t.Error("too few plans, or too few without one", plans, none)
	}
}

// Many programs, compared with what the words of the document say of a plan.
func TestVerifyOfAnyProgram(t *testing.T) {
	r := random()
	right, wrong := 0, 0
	for range 4000 {
		o := anyModel(r, 2, 1, 20)
		o.m.Tank += 100
		s := start(o.m.Tank)
		l := o.anyProgram(r, s, r.IntN(12))
		if r.IntN(6) == 0 && len(l) > 0 {
			l[r.IntN(len(l))] = breaker.Action{Kind: r.IntN(9), N: r.IntN(2)}
		}
		want, is, last := 0, api.ErrFalse, s
		for _, x := range l {
			var e api.Errno
			if last, e = o.do(last, x); e != api.OK {
				last = breaker.State{Site: -1}
				break
			}
		}
		if last.Site == 0 && o.done(last) {
			want, is = last.Hour, api.OK
			right++
		} else {
			wrong++
		}
		if n, e := breaker.Verify(o.m, o.a, s, l); n != want || e != is {
			t.Fatal(o, l, n, e, want, is)
		}
	}
	if right < 500 || wrong < 500 {
		t.Error("too few plans, or too few others", right, wrong)
	}
}
