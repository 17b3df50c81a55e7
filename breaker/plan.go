package breaker

import (
	"cmp"
	"iter"
	"slices"

	"polynya/api"
)

// reached is a state to which a program leads, with its last action and the state before that.
type reached struct {
	State
	last   Action
	before *reached
}

// program returns the program that leads to a state.
func (r *reached) program() []Action {
	var l []Action
	for ; r.before != nil; r = r.before {
		l = append(l, r.last)
	}
	slices.Reverse(l)
	return l
}

// covers reports whether a state covers another one.
func (s State) covers(t State) bool {
	return s.Fuel >= t.Fuel && s.Awake <= t.Awake && s.Worn <= t.Worn && s.place() == t.place()
}

// place returns a state with only what is the same in each one that covers it.
func (s State) place() State {
	s.Fuel, s.Awake, s.Worn = 0, 0, 0
	return s
}

// front is the states of some that no other one of them covers, by their place.
type front map[State][]*reached

// covers reports whether a state of the front covers another one.
func (f front) covers(s State) bool {
	return slices.ContainsFunc(f[s.place()], func(r *reached) bool { return r.State.covers(s) })
}

// add adds a state to the front, if no state there covers it.
func (f front) add(r *reached) {
	if f.covers(r.State) {
		return
	}
	at := r.place()
	f[at] = append(slices.DeleteFunc(f[at], func(o *reached) bool { return r.State.covers(o.State) }), r)
}

// sorted returns the states of the front in their order.
func (f front) sorted() []*reached {
	var l []*reached
	for _, same := range f {
		l = append(l, same...)
	}
	slices.SortFunc(l, func(r, o *reached) int { return r.compare(o.State) })
	return l
}

// compare compares states by Hour, Site, Cases, Notch, Fuel, Awake and Worn.
func (s State) compare(t State) int {
	return cmp.Or(
		cmp.Compare(s.Hour, t.Hour), cmp.Compare(s.Site, t.Site), slices.Compare(s.Cases[:], t.Cases[:]),
		cmp.Compare(s.Notch, t.Notch), cmp.Compare(s.Fuel, t.Fuel), cmp.Compare(s.Awake, t.Awake), cmp.Compare(s.Worn, t.Worn),
	)
}

// fronts yields, hour by hour, the front of the states to which programs lead from a state. What a state can carry out, one that covers it can, too, and covers it still after that: so the states that are covered lead to nothing else.
func (b *breaker) fronts(s State) iter.Seq[[]*reached] {
	return func(yield func([]*reached) bool) {
		at := make([]front, b.Limit+1)
		for hour := range at {
			at[hour] = front{}
		}
		at[s.Hour].add(&reached{State: s})
		for _, f := range at[s.Hour:] {
			l := f.sorted()
			if !yield(l) {
				return
			}
			for _, r := range l {
				for x, after := range b.can(r.State) {
					at[after.Hour].add(&reached{after, x, r})
				}
			}
		}
	}
}

// Find returns a plan that is done first, and when it is done.
func Find(m Machine, a Area, s State) ([]Action, int, api.Errno) {
	b, e := begin(m, a, s)
	if e != api.OK {
		return nil, 0, e
	}
	var last *reached
search:
	for l := range b.fronts(s) {
		for _, r := range l {
			if b.done(r.State) {
				last = r
				break search
			}
		}
	}
	if last == nil {
		return nil, 0, api.ErrNone
	}
	return last.program(), last.Hour, api.OK
}

// Verify returns when a plan is done.
func Verify(m Machine, a Area, s State, l []Action) (int, api.Errno) {
	b, e := begin(m, a, s)
	if e != api.OK {
		return 0, e
	}
	last, _, e := b.run(s, l)
	switch {
	case e == api.ErrMany:
		return 0, e
	case e != api.OK || !b.done(last):
		return 0, api.ErrFalse
	}
	return last.Hour, api.OK
}
