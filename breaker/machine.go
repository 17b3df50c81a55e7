package breaker

import (
	"polynya/api"
	"polynya/ice"
)

// What is allowed of a machine, and of an area.
const (
	maxTank  = 200
	maxIdle  = 5
	maxBurn  = 9
	maxWatch = 48
	maxRest  = 24
	maxWear  = 100
	maxRefit = 48
	maxHours = 24
)

// What a ship can be.
const (
	beset   = 0
	loose   = 1
	inNotch = 2
	isDone  = 3
)

const (
	// base is the site at which a machine begins, and is filled and refitted.
	base = 0
	// empty is the Notch without a ship.
	empty = -1
)

// breaker is a machine at work in an area.
type breaker struct {
	Machine
	Area
	deeds map[int]deed
}

// begin returns a machine at work, and its error or that of states.
func begin(m Machine, a Area, states ...State) (*breaker, api.Errno) {
	if e := Check(m, a); e != api.OK {
		return nil, e
	}
	b := &breaker{m, a, deeds(m)}
	for _, s := range states {
		if !b.isState(s) {
			return nil, api.ErrState
		}
	}
	return b, api.OK
}

// right reports whether all numbers of a machine are allowed.
func (m Machine) right() bool {
	burns := within(m.Idle, 0, maxIdle) && within(m.Steam, 0, maxBurn) && within(m.Work, 0, maxBurn)
	crew := within(m.Watch, 1, maxWatch) && within(m.Rest, 1, maxRest)
	return burns && crew && within(m.Tank, 1, maxTank) && within(m.Wear, 1, maxWear) && within(m.Refit, 1, maxRefit)
}

// isSite reports whether there is such a site.
func (a Area) isSite(n int) bool { return within(n, 0, len(a.Hours)-1) }

// rightHours reports whether the table of an area is allowed.
func (a Area) rightHours() bool {
	for from, row := range a.Hours {
		if len(row) != len(a.Hours) {
			return false
		}
		for to, hours := range row {
			if to == from && hours != 0 || to != from && !within(hours, 1, maxHours) {
				return false
			}
		}
	}
	return true
}

// rightPress reports whether all pressures of an area are allowed.
func (a Area) rightPress() bool {
	for _, press := range a.Press {
		if !within(press, 0, ice.MostPress) {
			return false
		}
	}
	return true
}

// rightCases reports whether all cases of an area are allowed.
func (a Area) rightCases() bool {
	for _, c := range a.Cases {
		if !a.isSite(c.Site) || !a.isSite(c.To) || !within(c.Cut, 1, maxHours) || !within(c.Calm, 0, ice.MostPress) {
			return false
		}
	}
	return true
}

// Check reports whether a machine and an area are valid.
func Check(m Machine, a Area) api.Errno {
	switch {
	case !m.right():
		return api.ErrBreaker
	case !within(len(a.Hours), 1, MaxSites), !within(len(a.Press), 1, MaxLimit), len(a.Cases) > MaxCases:
		return api.ErrMany
	case !a.rightHours(), !a.rightPress(), !a.rightCases(), !within(a.Limit, 0, MaxLimit):
		return api.ErrArg
	}
	return api.OK
}

// rightCase reports whether the ship of a number can be so: a number without a case has no other than the first one.
func (a Area) rightCase(n, is int) bool {
	switch {
	case n >= len(a.Cases):
		return is == beset
	case a.Cases[n].Towed:
		return within(is, beset, isDone)
	}
	return is == beset || is == isDone
}

// isState reports whether a state is one of the machine in the area.
func (b *breaker) isState(s State) bool {
	notch := empty
	for n, is := range s.Cases {
		if !b.rightCase(n, is) || is == inNotch && notch != empty {
			return false
		}
		if is == inNotch {
			notch = n
		}
	}
	ends := within(s.Hour, 0, b.Limit) && b.isSite(s.Site) && s.Notch == notch
	return ends && within(s.Fuel, 0, b.Tank) && within(s.Awake, 0, b.Watch) && within(s.Worn, 0, b.Wear)
}

// Begin returns the beginning.
func Begin(m Machine, a Area) (State, api.Errno) {
	if e := Check(m, a); e != api.OK {
		return State{}, e
	}
	return State{Site: base, Fuel: m.Tank, Notch: empty}, api.OK
}

// done reports whether a state is done.
func (b *breaker) done(s State) bool {
	for n := range b.Cases {
		if s.Cases[n] != isDone {
			return false
		}
	}
	return s.Site == base
}

// Done reports whether a state is done.
func Done(m Machine, a Area, s State) (bool, api.Errno) {
	b, e := begin(m, a, s)
	if e != api.OK {
		return false, e
	}
	return b.done(s), api.OK
}
