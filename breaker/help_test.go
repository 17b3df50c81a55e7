package breaker_test

import (
	"math/rand/v2"
	"slices"

	"polynya/api"
	"polynya/breaker"
	"polynya/hull"
	"polynya/ice"
)

// machine is that of the chapter's examples.
func machine() breaker.Machine {
	return breaker.Machine{Tank: 60, Idle: 1, Steam: 2, Work: 4, Watch: 24, Rest: 6, Wear: 30, Refit: 8}
}

// area is that of the chapter's examples, with the ship Towed or not.
func area(towed bool) breaker.Area {
	return breaker.Area{
		Hours: [][]int{{0, 3}, {3, 0}}, Press: []int{2, 2, 2, 2, 2, 1},
		Cases: []breaker.Case{{Site: 1, Cut: 4, Calm: 1, Towed: towed}}, Limit: 40,
	}
}

// wide is an area of three sites and three cases: the ships 0 and 2 are Towed, from site 1 to the sites 2 and 0; the ship 1 is at site 2.
func wide() breaker.Area {
	return breaker.Area{
		Hours: [][]int{{0, 2, 3}, {1, 0, 4}, {5, 6, 0}}, Press: []int{0, 1, 2, 3, 0},
		Cases: []breaker.Case{{Site: 1, To: 2, Cut: 2, Calm: 1, Towed: true}, {Site: 2, Cut: 3, Calm: 2}, {Site: 1, Cut: 1, Calm: 3, Towed: true}},
		Limit: 60,
	}
}

// act makes a program from kinds and numbers in turn.
func act(n ...int) []breaker.Action {
	var l []breaker.Action
	for i := 0; i < len(n); i += 2 {
		l = append(l, breaker.Action{Kind: n[i], N: n[i+1]})
	}
	return l
}

// start is the beginning with a full tank of so much.
func start(fuel int) breaker.State { return breaker.State{Fuel: fuel, Notch: -1} }

// with is the beginning of the examples with something changed.
func with(change func(s *breaker.State)) breaker.State {
	s := start(60)
	change(&s)
	return s
}

// ship is the ship of the examples of layer 3, with ice in a channel as hard as elsewhere.
func ship() hull.Ship {
	return hull.Ship{
		Class: 3, Power: 6000, Draught: 800, Tonnes: 9000,
		Thrust: []hull.Point{{X: 0, Y: 1000}, {X: 100, Y: 800}, {X: 200, Y: 0}}, Water: []hull.Point{{X: 0, Y: 0}, {X: 200, Y: 400}},
		Ice: []hull.Point{{X: 0, Y: 0}, {X: 400, Y: 2000}}, Brash: 100, Ridge: 10, Press: 100,
	}
}

// span makes a span.
func span(lo, hi int) api.Span { return api.Span{Lo: lo, Hi: hi} }

// level is a cell of level ice without pressure.
func level(lo, hi int) ice.Cell { return ice.Cell{Conc: span(100, 100), Thick: span(lo, hi)} }

// leg is one of one part, in level ice of 40 to 60, in which the ship goes at 130.
func leg(length int) []hull.Part { return []hull.Part{{Cell: level(40, 60), Length: length}} }

// random makes the same numbers in each run.
func random() *rand.Rand { return rand.New(rand.NewPCG(61, 83)) }

// model is a machine in an area, worked out from the words of the document.
type model struct {
	m breaker.Machine
	a breaker.Area
}

// press is the pressure in an hour.
func (o model) press(hour int) int {
	if hour < len(o.a.Press) {
		return o.a.Press[hour]
	}
	return o.a.Press[len(o.a.Press)-1]
}

// calm reports whether no one of so many hours has a pressure above most.
func (o model) calm(from, hours, most int) bool {
	for i := range hours {
		if o.press(from+i) > most {
			return false
		}
	}
	return true
}

// isState reports whether a state is one.
func (o model) isState(s breaker.State) bool {
	towing := 0
	for i, is := range s.Cases {
		known := []int{0}
		if i < len(o.a.Cases) && o.a.Cases[i].Towed {
			known = []int{0, 1, 2, 3}
		} else if i < len(o.a.Cases) {
			known = []int{0, 3}
		}
		if !slices.Contains(known, is) {
			return false
		}
		if is == 2 {
			towing++
			if s.Notch != i {
				return false
			}
		}
	}
	if towing == 0 && s.Notch != -1 || towing > 1 {
		return false
	}
	in := func(n, most int) bool { return n >= 0 && n <= most }
	return in(s.Hour, o.a.Limit) && in(s.Site, len(o.a.Hours)-1) && in(s.Fuel, o.m.Tank) && in(s.Awake, o.m.Watch) && in(s.Worn, o.m.Wear)
}

// takes is how many hours an action takes, and what it burns in each.
func (o model) takes(s breaker.State, x breaker.Action) (int, int) {
	switch x.Kind {
	case breaker.Go:
		if s.Notch >= 0 {
			return o.a.Hours[s.Site][x.N] * 2, o.m.Work
		}
		return o.a.Hours[s.Site][x.N], o.m.Steam
	case breaker.Cut:
		return o.a.Cases[x.N].Cut, o.m.Work
	case breaker.Take:
		return 1, o.m.Work
	case breaker.Rest:
		return o.m.Rest, o.m.Idle
	case breaker.Fill:
		return 2, 0
	case breaker.Refit:
		return o.m.Refit, 0
	}
	return 1, o.m.Idle
}

// numbers are how many numbers an action of a kind can have.
func (o model) numbers(kind int) int {
	switch kind {
	case breaker.Go:
		return len(o.a.Hours)
	case breaker.Cut, breaker.Take:
		return len(o.a.Cases)
	}
	return 1
}

// allowed reports whether an action with a number that there is is allowed.
func (o model) allowed(s breaker.State, x breaker.Action) bool {
	hours, _ := o.takes(s, x)
	free := s.Notch == -1
	switch x.Kind {
	case breaker.Go:
		return x.N != s.Site && (free || o.calm(s.Hour, hours, 2))
	case breaker.Cut:
		return free && s.Cases[x.N] == 0 && o.a.Cases[x.N].Site == s.Site && o.calm(s.Hour, hours, o.a.Cases[x.N].Calm)
	case breaker.Take:
		return free && s.Cases[x.N] == 1 && o.a.Cases[x.N].Site == s.Site && o.calm(s.Hour, 1, 1)
	case breaker.Drop:
		return !free && o.a.Cases[s.Notch].To == s.Site
	case breaker.Rest:
		return free
	case breaker.Fill, breaker.Refit:
		return free && s.Site == 0
	}
	return true
}

// changed is the state in which an action leaves the sites, the ships and the tank.
func (o model) changed(s breaker.State, x breaker.Action) breaker.State {
	switch x.Kind {
	case breaker.Go:
		s.Site = x.N
	case breaker.Cut:
		s.Cases[x.N] = 3
		if o.a.Cases[x.N].Towed {
			s.Cases[x.N] = 1
		}
	case breaker.Take:
		s.Cases[x.N], s.Notch = 2, x.N
	case breaker.Drop:
		s.Cases[s.Notch], s.Notch = 3, -1
	case breaker.Fill:
		s.Fuel = o.m.Tank
	}
	return s
}

// do carries out an action.
func (o model) do(s breaker.State, x breaker.Action) (breaker.State, api.Errno) {
	no := breaker.State{}
	if x.Kind < 1 || x.Kind > 8 {
		return no, api.ErrCommand
	}
	if x.N < 0 || x.N >= o.numbers(x.Kind) {
		return no, api.ErrArg
	}
	if !o.allowed(s, x) {
		return no, api.ErrBreaker
	}
	hours, burns := o.takes(s, x)
	if s.Hour+hours > o.a.Limit {
		return no, api.ErrTime
	}
	if s.Fuel < hours*burns {
		return no, api.ErrFuel
	}
	awake, worn := s.Awake+hours, s.Worn
	switch x.Kind {
	case breaker.Cut, breaker.Take:
		worn += hours
	case breaker.Go:
		if s.Notch >= 0 {
			worn += hours
		}
	case breaker.Rest:
		awake = 0
	case breaker.Refit:
		awake, worn = 0, 0
	}
	if awake > o.m.Watch || worn > o.m.Wear {
		return no, api.ErrRange
	}
	s.Fuel -= hours * burns
	s = o.changed(s, x)
	s.Hour, s.Awake, s.Worn = s.Hour+hours, awake, worn
	return s, api.OK
}

// can are the actions that can be carried out, with the states after them.
func (o model) can(s breaker.State) ([]breaker.Action, []breaker.State) {
	var l []breaker.Action
	var after []breaker.State
	for kind := 1; kind <= 8; kind++ {
		for n := range o.numbers(kind) {
			x := breaker.Action{Kind: kind, N: n}
			if t, e := o.do(s, x); e == api.OK {
				l, after = append(l, x), append(after, t)
			}
		}
	}
	return l, after
}

// done reports whether a state is done.
func (o model) done(s breaker.State) bool {
	for i := range o.a.Cases {
		if s.Cases[i] != 3 {
			return false
		}
	}
	return s.Site == 0
}

// reach are all states to which programs lead, in the order of the front.
func (o model) reach(s breaker.State) []breaker.State {
	seen, ahead := map[breaker.State]bool{s: true}, []breaker.State{s}
	for i := 0; i < len(ahead); i++ {
		_, after := o.can(ahead[i])
		for _, t := range after {
			if !seen[t] {
				seen[t] = true
				ahead = append(ahead, t)
			}
		}
	}
	slices.SortFunc(ahead, inOrder)
	return ahead
}

// inOrder compares states by Hour, Site, Cases, Notch, Fuel, Awake and Worn.
func inOrder(s, t breaker.State) int {
	list := func(s breaker.State) []int {
		return []int{s.Hour, s.Site, s.Cases[0], s.Cases[1], s.Cases[2], s.Notch, s.Fuel, s.Awake, s.Worn}
	}
	return slices.Compare(list(s), list(t))
}

// covers reports whether a state covers another one.
func covers(s, t breaker.State) bool {
	same := s.Hour == t.Hour && s.Site == t.Site && s.Notch == t.Notch && s.Cases == t.Cases
	return same && s.Fuel >= t.Fuel && s.Awake <= t.Awake && s.Worn <= t.Worn
}

// covered reports whether some state of a list covers another one.
func covered(l []breaker.State, t breaker.State) bool {
	return slices.ContainsFunc(l, func(s breaker.State) bool { return covers(s, t) })
}

// frontOf are the states, of all that are reached, that no other one covers.
func frontOf(all []breaker.State) []breaker.State {
	var l []breaker.State
	for _, t := range all {
		if !slices.ContainsFunc(all, func(s breaker.State) bool { return s != t && covers(s, t) }) {
			l = append(l, t)
		}
	}
	return l
}

// firstDone is the least hour of a state that is done, -1 if none is.
func (o model) firstDone(all []breaker.State) int {
	for _, s := range all {
		if o.done(s) {
			return s.Hour
		}
	}
	return -1
}

// proves reports whether a list is a proof.
func (o model) proves(s breaker.State, l []breaker.State) bool {
	for _, t := range l {
		if o.done(t) {
			return false
		}
		_, after := o.can(t)
		for _, u := range after {
			if !covered(l, u) {
				return false
			}
		}
	}
	return covered(l, s)
}

// anyMachine makes a machine that is often short of something.
func anyMachine(r *rand.Rand) breaker.Machine {
	return breaker.Machine{
		Tank: 1 + r.IntN(60), Idle: r.IntN(3), Steam: r.IntN(5), Work: r.IntN(6),
		Watch: 1 + r.IntN(20), Rest: 1 + r.IntN(4), Wear: 1 + r.IntN(14), Refit: 1 + r.IntN(4),
	}
}

// anyArea makes an area with short ways, at most so many sites and cases, and the Limit.
func anyArea(r *rand.Rand, sites, cases, limit int) breaker.Area {
	n := 1 + r.IntN(sites)
	a := breaker.Area{Limit: limit}
	for i := range n {
		a.Hours = append(a.Hours, make([]int, n))
		for k := range n {
			if k != i {
				a.Hours[i][k] = 1 + r.IntN(3)
			}
		}
	}
	for range 1 + r.IntN(12) {
		a.Press = append(a.Press, r.IntN(1+r.IntN(4)))
	}
	for range r.IntN(cases + 1) {
		a.Cases = append(a.Cases, breaker.Case{Site: r.IntN(n), To: r.IntN(n), Cut: 1 + r.IntN(3), Calm: r.IntN(4), Towed: r.IntN(2) == 0})
	}
	return a
}

// anyModel makes a machine in an area.
func anyModel(r *rand.Rand, sites, cases, limit int) model {
	return model{anyMachine(r), anyArea(r, sites, cases, limit)}
}

// anyState makes a state of a machine in an area.
func (o model) anyState(r *rand.Rand) breaker.State {
	s := breaker.State{
		Hour: r.IntN(o.a.Limit + 1), Site: r.IntN(len(o.a.Hours)), Notch: -1,
		Fuel: o.m.Tank - r.IntN(1+r.IntN(o.m.Tank+1)), Awake: r.IntN(1 + r.IntN(o.m.Watch+1)), Worn: r.IntN(1 + r.IntN(o.m.Wear+1)),
	}
	for i, c := range o.a.Cases {
		s.Cases[i] = 3 * r.IntN(2)
		if c.Towed && r.IntN(2) == 0 {
			s.Cases[i] = 1
		}
	}
	if i := r.IntN(3); i < len(o.a.Cases) && o.a.Cases[i].Towed {
		s.Notch, s.Cases[i] = i, 2
	}
	return s
}

// anyProgram makes a program that can be carried out, of at most so many actions.
func (o model) anyProgram(r *rand.Rand, s breaker.State, most int) []breaker.Action {
	var l []breaker.Action
	for range most {
		can, after := o.can(s)
		if len(can) == 0 {
			break
		}
		i := r.IntN(len(can))
		l, s = append(l, can[i]), after[i]
	}
	return l
}

// worse makes a state that another one covers.
func (o model) worse(r *rand.Rand, s breaker.State) breaker.State {
	s.Fuel -= r.IntN(1 + min(s.Fuel, r.IntN(9)))
	s.Awake += r.IntN(1 + min(o.m.Watch-s.Awake, r.IntN(5)))
	s.Worn += r.IntN(1 + min(o.m.Wear-s.Worn, r.IntN(5)))
	return s
}

// copied is an area that shares no memory with another one.
func copied(a breaker.Area) breaker.Area {
	a.Hours, a.Press, a.Cases = slices.Clone(a.Hours), slices.Clone(a.Press), slices.Clone(a.Cases)
	for i, row := range a.Hours {
		a.Hours[i] = slices.Clone(row)
	}
	return a
}

// given are arguments of functions.
type given struct {
	M        breaker.Machine
	A        breaker.Area
	S, T     breaker.State
	X        breaker.Action
	L        []breaker.Action
	List     []breaker.State
	Ship     hull.Ship
	Cell     ice.Cell
	Passages [][][]hull.Part
}

// face is a function of the package that takes a machine.
type face struct {
	name                 string
	one, other, programs bool // whether it takes a state, one more, and a program
	call                 func(g given) ([]any, api.Errno)
}

// faces are the functions that take a machine.
func faces() []face {
	return []face{
		{"Check", false, false, false, func(g given) ([]any, api.Errno) {
			return nil, breaker.Check(g.M, g.A)
		}},
		{"Begin", false, false, false, func(g given) ([]any, api.Errno) {
			s, e := breaker.Begin(g.M, g.A)
			return []any{s}, e
		}},
		{"Do", true, false, false, func(g given) ([]any, api.Errno) {
			s, e := breaker.Do(g.M, g.A, g.S, g.X)
			return []any{s}, e
		}},
		{"Run", true, false, true, func(g given) ([]any, api.Errno) {
			s, n, e := breaker.Run(g.M, g.A, g.S, g.L)
			return []any{s, n}, e
		}},
		{"Can", true, false, false, func(g given) ([]any, api.Errno) {
			l, e := breaker.Can(g.M, g.A, g.S)
			return []any{l}, e
		}},
		{"Done", true, false, false, func(g given) ([]any, api.Errno) {
			is, e := breaker.Done(g.M, g.A, g.S)
			return []any{is}, e
		}},
		{"Covers", true, true, false, func(g given) ([]any, api.Errno) {
			is, e := breaker.Covers(g.M, g.A, g.S, g.T)
			return []any{is}, e
		}},
		{"Spent", true, false, true, func(g given) ([]any, api.Errno) {
			c, e := breaker.Spent(g.M, g.A, g.S, g.L)
			return []any{c}, e
		}},
		{"Find", true, false, false, func(g given) ([]any, api.Errno) {
			l, n, e := breaker.Find(g.M, g.A, g.S)
			return []any{l, n}, e
		}},
		{"Verify", true, false, true, func(g given) ([]any, api.Errno) {
			n, e := breaker.Verify(g.M, g.A, g.S, g.L)
			return []any{n}, e
		}},
		{"Front", true, false, false, func(g given) ([]any, api.Errno) {
			l, e := breaker.Front(g.M, g.A, g.S)
			return []any{l}, e
		}},
		{"Proves", true, false, false, func(g given) ([]any, api.Errno) {
			is, e := breaker.Proves(g.M, g.A, g.S, g.List)
			return []any{is}, e
		}},
	}
}
