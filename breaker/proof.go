package breaker

import "polynya/api"

// Covers reports whether a state covers another one.
func Covers(m Machine, a Area, s, t State) (bool, api.Errno) {
	if _, e := begin(m, a, s, t); e != api.OK {
		return false, e
	}
	return s.covers(t), api.OK
}

// Front returns the front of a state.
func Front(m Machine, a Area, s State) ([]State, api.Errno) {
	b, e := begin(m, a, s)
	if e != api.OK {
		return nil, e
	}
	var all []State
	for l := range b.fronts(s) {
		if len(all)+len(l) > MaxFront {
			return nil, api.ErrLarge
		}
		for _, r := range l {
			all = append(all, r.State)
		}
	}
	return all, api.OK
}

// closed reports whether a front has none that is done, and covers all states that follow those of a list.
func (b *breaker) closed(f front, l []State) bool {
	for _, s := range l {
		if b.done(s) {
			return false
		}
		for _, after := range b.can(s) {
			if !f.covers(after) {
				return false
			}
		}
	}
	return true
}

// Proves reports whether a list proves that there is no plan.
func Proves(m Machine, a Area, s State, l []State) (bool, api.Errno) {
	b, e := begin(m, a, s)
	if e != api.OK {
		return false, e
	}
	if len(l) > MaxFront {
		return false, api.ErrLarge
	}
	f := front{}
	for _, t := range l {
		if !b.isState(t) {
			return false, api.ErrState
		}
		f.add(&reached{State: t})
	}
	return f.covers(s) && b.closed(f, l), api.OK
}
