package breaker_test

import (
	"slices"
	"testing"

	"polynya/api"
	"polynya/breaker"
)

// P6.1: machines and areas; and P6.2: which states there are, and which are done.

// bounds are a number that is somewhere, and what is allowed of it.
type bounds struct {
	name   string
	in     func(m *breaker.Machine, a *breaker.Area) *int
	lo, hi int
	e      api.Errno
}

// numbers are the numbers of a machine and of the wide area.
func numbers() []bounds {
	return []bounds{
		{"Tank", func(m *breaker.Machine, a *breaker.Area) *int { return &m.Tank }, 1, 200, api.ErrBreaker},
		{"Idle", func(m *breaker.Machine, a *breaker.Area) *int { return &m.Idle }, 0, 5, api.ErrBreaker},
		{"Steam", func(m *breaker.Machine, a *breaker.Area) *int { return &m.Steam }, 0, 9, api.ErrBreaker},
		{"Work", func(m *breaker.Machine, a *breaker.Area) *int { return &m.Work }, 0, 9, api.ErrBreaker},
		{"Watch", func(m *breaker.Machine, a *breaker.Area) *int { return &m.Watch }, 1, 48, api.ErrBreaker},
		{"Rest", func(m *breaker.Machine, a *breaker.Area) *int { return &m.Rest }, 1, 24, api.ErrBreaker},
		{"Wear", func(m *breaker.Machine, a *breaker.Area) *int { return &m.Wear }, 1, 100, api.ErrBreaker},
		{"Refit", func(m *breaker.Machine, a *breaker.Area) *int { return &m.Refit }, 1, 48, api.ErrBreaker},
		{"a way", func(m *breaker.Machine, a *breaker.Area) *int { return &a.Hours[0][1] }, 1, 24, api.ErrArg},
		{"the last way", func(m *breaker.Machine, a *breaker.Area) *int { return &a.Hours[2][1] }, 1, 24, api.ErrArg},
		{"no way", func(m *breaker.Machine, a *breaker.Area) *int { return &a.Hours[0][0] }, 0, 0, api.ErrArg},
		{"the last of no way", func(m *breaker.Machine, a *breaker.Area) *int { return &a.Hours[2][2] }, 0, 0, api.ErrArg},
		{"a pressure", func(m *breaker.Machine, a *breaker.Area) *int { return &a.Press[0] }, 0, 3, api.ErrArg},
		{"the last pressure", func(m *breaker.Machine, a *breaker.Area) *int { return &a.Press[4] }, 0, 3, api.ErrArg},
		{"Site", func(m *breaker.Machine, a *breaker.Area) *int { return &a.Cases[0].Site }, 0, 2, api.ErrArg},
		{"To", func(m *breaker.Machine, a *breaker.Area) *int { return &a.Cases[1].To }, 0, 2, api.ErrArg},
		{"Cut", func(m *breaker.Machine, a *breaker.Area) *int { return &a.Cases[2].Cut }, 1, 24, api.ErrArg},
		{"Calm", func(m *breaker.Machine, a *breaker.Area) *int { return &a.Cases[2].Calm }, 0, 3, api.ErrArg},
		{"Limit", func(m *breaker.Machine, a *breaker.Area) *int { return &a.Limit }, 0, 60, api.ErrArg},
	}
}

// Each number is allowed from its least to its greatest value, and no further.
func TestNumbers(t *testing.T) {
	for _, b := range numbers() {
		for _, c := range []struct {
			n    int
			want api.Errno
		}{{b.lo, api.OK}, {b.hi, api.OK}, {b.lo - 1, b.e}, {b.hi + 1, b.e}, {-1 << 63, b.e}, {1<<63 - 1, b.e}} {
			m, a := machine(), wide()
			*b.in(&m, &a) = c.n
			if e := breaker.Check(m, a); e != c.want {
				t.Error(b.name, c.n, e)
			}
		}
	}
}

// square is a table of so many sites, an hour from each other.
func square(sites int) [][]int {
	var l [][]int
	for i := range sites {
		row := slices.Repeat([]int{1}, sites)
		row[i] = 0
		l = append(l, row)
	}
	return l
}

func TestCheck(t *testing.T) {
	for i, c := range []struct {
		change func(m *breaker.Machine, a *breaker.Area)
		want   api.Errno
	}{
		{func(m *breaker.Machine, a *breaker.Area) {}, api.OK},
		// How many sites, pressures and cases there are.
		{func(m *breaker.Machine, a *breaker.Area) { a.Hours = square(4) }, api.OK},
		{func(m *breaker.Machine, a *breaker.Area) { a.Hours, a.Cases = square(1), nil }, api.OK},
		{func(m *breaker.Machine, a *breaker.Area) { a.Hours = square(5) }, api.ErrMany},
		{func(m *breaker.Machine, a *breaker.Area) { a.Hours, a.Cases = square(0), nil }, api.ErrMany},
		{func(m *breaker.Machine, a *breaker.Area) { a.Press = []int{3} }, api.OK},
		{func(m *breaker.Machine, a *breaker.Area) { a.Press = make([]int, 60) }, api.OK},
		{func(m *breaker.Machine, a *breaker.Area) { a.Press = make([]int, 61) }, api.ErrMany},
		{func(m *breaker.Machine, a *breaker.Area) { a.Press = nil }, api.ErrMany},
		{func(m *breaker.Machine, a *breaker.Area) { a.Cases = append(a.Cases, a.Cases[0]) }, api.ErrMany},
		{func(m *breaker.Machine, a *breaker.Area) { a.Cases = nil }, api.OK},
		// A table that is not square.
		{func(m *breaker.Machine, a *breaker.Area) { a.Hours[0] = a.Hours[0][:2] }, api.ErrArg},
		{func(m *breaker.Machine, a *breaker.Area) { a.Hours[2] = append(a.Hours[2], 1) }, api.ErrArg},
		{func(m *breaker.Machine, a *breaker.Area) { a.Hours[1] = nil }, api.ErrArg},
		// A way to a site of one hour, and one back of 24.
		{func(m *breaker.Machine, a *breaker.Area) { a.Hours[0][1], a.Hours[1][0] = 1, 24 }, api.OK},
		// Every case is examined: a ship that is not towed has a To that is a site, too.
		{func(m *breaker.Machine, a *breaker.Area) { a.Cases[1].To = 3 }, api.ErrArg},
		{func(m *breaker.Machine, a *breaker.Area) { a.Cases[2].Site = -1 }, api.ErrArg},
		{func(m *breaker.Machine, a *breaker.Area) { a.Cases[2].To = a.Cases[2].Site }, api.OK},
		// The machine comes first, then how many there are.
		{func(m *breaker.Machine, a *breaker.Area) { m.Refit, a.Hours, a.Limit = 0, nil, -1 }, api.ErrBreaker},
		{func(m *breaker.Machine, a *breaker.Area) { a.Hours[0][0], a.Press = 1, nil }, api.ErrMany},
		{func(m *breaker.Machine, a *breaker.Area) { a.Press[0], a.Cases = 4, make([]breaker.Case, 4) }, api.ErrMany},
	} {
		m, a := machine(), wide()
		c.change(&m, &a)
		if e := breaker.Check(m, a); e != c.want {
			t.Error(i, e)
		}
		want := breaker.State{Fuel: 60, Notch: -1}
		if c.want != api.OK {
			want = breaker.State{}
		}
		if s, e := breaker.Begin(m, a); s != want || e != c.want {
			t.Error(i, s, e)
		}
	}
}

// The beginning has a full tank, whatever the machine.
func TestBegin(t *testing.T) {
	r := random()
	for range 200 {
		o := anyModel(r, 4, 3, r.IntN(61))
		s, e := breaker.Begin(o.m, o.a)
		if s != start(o.m.Tank) || e != api.OK || !o.isState(s) {
			t.Fatal(o, s, e)
		}
	}
}

// Which states there are.
func TestStates(t *testing.T) {
	m, a := machine(), wide()
	for i, c := range []struct {
		change func(s *breaker.State)
		want   bool
	}{
		{func(s *breaker.State) {}, true},
		{func(s *breaker.State) { s.Hour = 60 }, true},
		{func(s *breaker.State) { s.Hour = 61 }, false},
		{func(s *breaker.State) { s.Hour = -1 }, false},
		{func(s *breaker.State) { s.Site = 2 }, true},
		{func(s *breaker.State) { s.Site = 3 }, false},
		{func(s *breaker.State) { s.Site = -1 }, false},
		{func(s *breaker.State) { s.Fuel = 0 }, true},
		{func(s *breaker.State) { s.Fuel = -1 }, false},
		{func(s *breaker.State) { s.Fuel = 61 }, false},
		{func(s *breaker.State) { s.Awake = 24 }, true},
		{func(s *breaker.State) { s.Awake = 25 }, false},
		{func(s *breaker.State) { s.Awake = -1 }, false},
		{func(s *breaker.State) { s.Worn = 30 }, true},
		{func(s *breaker.State) { s.Worn = 31 }, false},
		{func(s *breaker.State) { s.Worn = -1 }, false},
		{func(s *breaker.State) { s.Cases = [3]int{1, 0, 3} }, true},
		{func(s *breaker.State) { s.Cases = [3]int{3, 3, 1} }, true},
		{func(s *breaker.State) { s.Cases = [3]int{4, 0, 0} }, false},
		{func(s *breaker.State) { s.Cases = [3]int{0, 0, -1} }, false},
		// A ship that is not Towed is beset or done.
		{func(s *breaker.State) { s.Cases = [3]int{0, 1, 0} }, false},
		{func(s *breaker.State) { s.Cases, s.Notch = [3]int{0, 2, 0}, 1 }, false},
		// The notch has just the ship that is in it.
		{func(s *breaker.State) { s.Cases, s.Notch = [3]int{2, 0, 0}, 0 }, true},
		{func(s *breaker.State) { s.Cases, s.Notch = [3]int{1, 3, 2}, 2 }, true},
		{func(s *breaker.State) { s.Cases, s.Notch = [3]int{2, 0, 2}, 0 }, false},
		{func(s *breaker.State) { s.Cases, s.Notch = [3]int{2, 0, 2}, 2 }, false},
		{func(s *breaker.State) { s.Cases, s.Notch = [3]int{2, 0, 0}, 2 }, false},
		{func(s *breaker.State) { s.Cases, s.Notch = [3]int{1, 0, 0}, 0 }, false},
		{func(s *breaker.State) { s.Cases = [3]int{2, 0, 0} }, false},
		{func(s *breaker.State) { s.Notch = 0 }, false},
		{func(s *breaker.State) { s.Notch = -2 }, false},
		{func(s *breaker.State) { s.Notch = 3 }, false},
	} {
		s := with(c.change)
		if o := (model{m, a}); o.isState(s) != c.want {
			t.Error(i, "the model", s)
		}
		_, e := breaker.Done(m, a, s)
		if (e == api.OK) != c.want || !c.want && e != api.ErrState {
			t.Error(i, s, e)
		}
	}
	// Numbers without a case have 0.
	a.Cases = a.Cases[:1]
	for i, c := range []struct {
		cases [3]int
		want  api.Errno
	}{{[3]int{3, 0, 0}, api.OK}, {[3]int{0, 3, 0}, api.ErrState}, {[3]int{0, 0, 1}, api.ErrState}} {
		if _, e := breaker.Done(m, a, with(func(s *breaker.State) { s.Cases = c.cases })); e != c.want {
			t.Error(i, e)
		}
	}
}

func TestDone(t *testing.T) {
	m, a := machine(), wide()
	for i, c := range []struct {
		change func(s *breaker.State)
		want   bool
	}{
		{func(s *breaker.State) {}, false},
		{func(s *breaker.State) { s.Cases = [3]int{3, 3, 3} }, true},
		{func(s *breaker.State) { s.Cases, s.Hour, s.Fuel, s.Awake, s.Worn = [3]int{3, 3, 3}, 60, 0, 24, 30 }, true},
		{func(s *breaker.State) { s.Cases, s.Site = [3]int{3, 3, 3}, 1 }, false},
		{func(s *breaker.State) { s.Cases = [3]int{0, 3, 3} }, false},
		{func(s *breaker.State) { s.Cases = [3]int{3, 3, 1} }, false},
		{func(s *breaker.State) { s.Cases, s.Notch = [3]int{3, 3, 2}, 2 }, false},
	} {
		if is, e := breaker.Done(m, a, with(c.change)); is != c.want || e != api.OK {
			t.Error(i, is, e)
		}
	}
	a.Cases = nil
	if is, e := breaker.Done(m, a, start(0)); !is || e != api.OK {
		t.Error("without cases all is done at the base", is, e)
	}
	if is, e := breaker.Done(m, a, with(func(s *breaker.State) { s.Site = 1 })); is || e != api.OK {
		t.Error(is, e)
	}
}
