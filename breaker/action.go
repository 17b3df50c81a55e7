package breaker

import (
	"iter"

	"polynya/api"
)

const (
	// maxTow is the greatest pressure in which she goes with a ship in the notch.
	maxTow = 2
	// maxTake is the greatest pressure in which she takes a ship into the notch.
	maxTake = 1
	// filling is how many hours Fill takes.
	filling = 2
)

// deed is what the actions of a kind need and do, each with its number n, in the state before it.
type deed struct {
	// numbers tells how many numbers there are, from 0 on.
	numbers func(b *breaker) int
	allowed func(b *breaker, s State, n int) bool
	// takes tells the hours, and what is burnt in each of them.
	takes func(b *breaker, s State, n int) (hours, burns int)
	// then tells what comes of it. Hour, Fuel and Awake have changed by the hours before, as this is alike for all kinds.
	then func(b *breaker, s State, n, hours int) State
}

// deeds returns what the actions of all kinds need and do.
func deeds(m Machine) map[int]deed {
	always := func(hours, burns int) func(*breaker, State, int) (int, int) {
		return func(*breaker, State, int) (int, int) { return hours, burns }
	}
	return map[int]deed{
		Go:    {(*breaker).sites, (*breaker).mayGo, (*breaker).passage, (*breaker).arrive},
		Cut:   {(*breaker).ships, (*breaker).mayCut, (*breaker).cutting, (*breaker).cutLoose},
		Take:  {(*breaker).ships, (*breaker).mayTake, always(1, m.Work), (*breaker).takeIn},
		Drop:  {(*breaker).noNumber, (*breaker).mayDrop, always(1, m.Idle), (*breaker).drop},
		Wait:  {(*breaker).noNumber, (*breaker).mayWait, always(1, m.Idle), (*breaker).stay},
		Rest:  {(*breaker).noNumber, (*breaker).mayRest, always(m.Rest, m.Idle), (*breaker).wake},
		Fill:  {(*breaker).noNumber, (*breaker).inPort, always(filling, 0), (*breaker).fill},
		Refit: {(*breaker).noNumber, (*breaker).inPort, always(m.Refit, 0), (*breaker).renew},
	}
}

// sites returns how many sites there are.
func (b *breaker) sites() int { return len(b.Hours) }

// ships returns how many cases there are.
func (b *breaker) ships() int { return len(b.Cases) }

// noNumber stands for the kinds whose actions have the number 0 alone.
func (b *breaker) noNumber() int { return 1 }

// press returns the greatest pressure in so many hours, from one of them on.
func (b *breaker) press(from, hours int) int {
	most := 0
	for hour := from; hour < from+hours; hour++ {
		most = max(most, b.Press[min(hour, len(b.Press)-1)])
	}
	return most
}

// passage returns what Go takes and burns.
func (b *breaker) passage(s State, n int) (hours, burns int) {
	hours = b.Hours[s.Site][n]
	if s.Notch == empty {
		return hours, b.Steam
	}
	return 2 * hours, b.Work
}

// mayGo reports whether Go is allowed.
func (b *breaker) mayGo(s State, n int) bool {
	hours, _ := b.passage(s, n)
	return n != s.Site && (s.Notch == empty || b.press(s.Hour, hours) <= maxTow)
}

// arrive returns a state after Go.
func (b *breaker) arrive(s State, n, hours int) State {
	s.Site = n
	if s.Notch != empty {
		s.Worn += hours
	}
	return s
}

// cutting returns what Cut takes and burns.
func (b *breaker) cutting(s State, n int) (hours, burns int) { return b.Cases[n].Cut, b.Work }

// mayCut reports whether Cut is allowed.
func (b *breaker) mayCut(s State, n int) bool {
	c := b.Cases[n]
	return s.Notch == empty && s.Cases[n] == beset && s.Site == c.Site && b.press(s.Hour, c.Cut) <= c.Calm
}

// cutLoose returns a state after Cut.
func (b *breaker) cutLoose(s State, n, hours int) State {
	s.Worn += hours
	s.Cases[n] = isDone
	if b.Cases[n].Towed {
		s.Cases[n] = loose
	}
	return s
}

// mayTake reports whether Take is allowed.
func (b *breaker) mayTake(s State, n int) bool {
	return s.Notch == empty && s.Cases[n] == loose && s.Site == b.Cases[n].Site && b.press(s.Hour, 1) <= maxTake
}

// takeIn returns a state after Take.
func (b *breaker) takeIn(s State, n, hours int) State {
	s.Worn += hours
	s.Notch, s.Cases[n] = n, inNotch
	return s
}

// mayDrop reports whether Drop is allowed.
func (b *breaker) mayDrop(s State, n int) bool {
	return s.Notch != empty && s.Site == b.Cases[s.Notch].To
}

// drop returns a state after Drop.
func (b *breaker) drop(s State, n, hours int) State {
	s.Notch, s.Cases[s.Notch] = empty, isDone
	return s
}

// mayWait reports whether Wait is allowed.
func (b *breaker) mayWait(s State, n int) bool { return true }

// stay returns a state after Wait, of which only the time and the fuel change.
func (b *breaker) stay(s State, n, hours int) State { return s }

// mayRest reports whether Rest is allowed.
func (b *breaker) mayRest(s State, n int) bool { return s.Notch == empty }

// wake returns a state after Rest.
func (b *breaker) wake(s State, n, hours int) State {
	s.Awake = 0
	return s
}

// inPort reports whether Fill and Refit are allowed.
func (b *breaker) inPort(s State, n int) bool { return s.Notch == empty && s.Site == base }

// fill returns a state after Fill.
func (b *breaker) fill(s State, n, hours int) State {
	s.Fuel = b.Tank
	return s
}

// renew returns a state after Refit.
func (b *breaker) renew(s State, n, hours int) State {
	s.Worn, s.Awake = 0, 0
	return s
}

// after returns the state after an action, and its error.
func (b *breaker) after(s State, x Action) (State, api.Errno) {
	d, is := b.deeds[x.Kind]
	switch {
	case !is:
		return State{}, api.ErrCommand
	case !within(x.N, 0, d.numbers(b)-1):
		return State{}, api.ErrArg
	case !d.allowed(b, s, x.N):
		return State{}, api.ErrBreaker
	}
	hours, burns := d.takes(b, s, x.N)
	s.Hour += hours
	s.Fuel -= hours * burns
	s.Awake += hours
	s = d.then(b, s, x.N, hours)
	switch {
	case s.Hour > b.Limit:
		return State{}, api.ErrTime
	case s.Fuel < 0: // Fill hides no lack: it burns nothing.
		return State{}, api.ErrFuel
	case s.Awake > b.Watch || s.Worn > b.Wear:
		return State{}, api.ErrRange
	}
	return s, api.OK
}

// can yields the actions that can be carried out in a state, by Kind and then N, each with the state after it.
func (b *breaker) can(s State) iter.Seq2[Action, State] {
	return func(yield func(Action, State) bool) {
		for kind := Go; kind <= Refit; kind++ {
			for n := range b.deeds[kind].numbers(b) {
				x := Action{kind, n}
				if after, e := b.after(s, x); e == api.OK && !yield(x, after) {
					return
				}
			}
		}
	}
}

// run returns the state after a program, or before its first action with an error, how many were carried out, and the error.
func (b *breaker) run(s State, l []Action) (State, int, api.Errno) {
	if len(l) > MaxProgram {
		return State{}, 0, api.ErrMany
	}
	for i, x := range l {
		after, e := b.after(s, x)
		if e != api.OK {
			return s, i, e
		}
		s = after
	}
	return s, len(l), api.OK
}

// Do carries out an action.
func Do(m Machine, a Area, s State, x Action) (State, api.Errno) {
	b, e := begin(m, a, s)
	if e != api.OK {
		return State{}, e
	}
	return b.after(s, x)
}

// Run carries out a program.
func Run(m Machine, a Area, s State, l []Action) (State, int, api.Errno) {
	b, e := begin(m, a, s)
	if e != api.OK {
		return State{}, 0, e
	}
	return b.run(s, l)
}

// Can returns all actions that can be carried out.
func Can(m Machine, a Area, s State) ([]Action, api.Errno) {
	b, e := begin(m, a, s)
	if e != api.OK {
		return nil, e
	}
	var l []Action
	for x := range b.can(s) {
		l = append(l, x)
	}
	return l, api.OK
}

// Spent returns what a program takes.
func Spent(m Machine, a Area, s State, l []Action) (Account, api.Errno) {
	b, e := begin(m, a, s)
	if e != api.OK {
		return Account{}, e
	}
	if _, _, e := b.run(s, l); e != api.OK {
		return Account{}, e
	}
	var spent Account
	for _, x := range l {
		hours, burns := b.deeds[x.Kind].takes(b, s, x.N)
		after, _ := b.after(s, x)
		spent.Hours[x.Kind-1] += hours
		spent.Burnt += hours * burns
		spent.Taken += after.Fuel - s.Fuel + hours*burns
		s = after
	}
	return spent, api.OK
}
