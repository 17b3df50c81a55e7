package hull

import (
	"cmp"
	"iter"

	"polynya/api"
	"polynya/ice"
)

const (
	// percent is how many parts of a whole Conc and Brash count.
	percent = 100
	// slowParts is how many parts of a whole Slow counts.
	slowParts = 1000
)

// sailing is a ship that goes in an ice.
type sailing struct {
	Ship
	in      ice.Ice
	channel bool
}

// plus returns the sum of two fractions; it need not be in lowest terms.
func plus(a, b api.Ratio) api.Ratio { return api.Ratio{N: a.N*b.D + b.N*a.D, D: a.D * b.D} }

// resistance returns her resistance at a speed. Only the sum is rounded, so its parts are fractions: with the limits of ships and ice they fit an int.
func (g sailing) resistance(v int) int {
	brash, ridges := percent, g.in.Ridge
	if g.channel {
		brash, ridges = g.Brash, 0
	}
	level := value(g.Ice, g.in.Thick)
	level.N *= brash * (slowParts + g.Slow*v)
	level.D *= percent * slowParts
	covered := plus(level, api.Ratio{N: g.Ridge * ridges, D: 1})
	covered.N *= g.in.Conc
	covered.D *= percent
	pressed := api.Ratio{N: g.Press * g.in.Press, D: 1}
	all := plus(plus(value(g.Water, v), covered), pressed)
	return roundedUp(all.N, all.D)
}

// makes reports whether she can make a speed.
func (g sailing) makes(v int) bool {
	return v <= lastX(g.Thrust) && thrust(g.Ship, v) >= g.resistance(v)
}

// speed returns her speed.
func (g sailing) speed() int {
	v, _ := greatest(lastX(g.Thrust), g.makes)
	return v
}

// beset reports whether she is beset.
func (g sailing) beset() bool { return g.speed() < MinSpeed }

// level returns level ice of a thickness.
func level(thick int) ice.Ice { return ice.Ice{Conc: ice.MostConc, Thick: thick} }

// ends yields the ices at the ends of a cell, the most ice first; just one if they are equal.
func ends(c ice.Cell) iter.Seq[ice.Ice] {
	return func(yield func(ice.Ice) bool) {
		least := ice.Ice{Conc: c.Conc.Lo, Thick: c.Thick.Lo, Ridge: c.Ridge.Lo, Press: c.Press.Lo}
		most := ice.Ice{Conc: c.Conc.Hi, Thick: c.Thick.Hi, Ridge: c.Ridge.Hi, Press: c.Press.Hi}
		if yield(most) && least != most {
			yield(least)
		}
	}
}

// oneAndAll reports whether something is so of one ice of a cell, and whether of all. It suffices to ask the ends if it is so of more ice wherever it is so of less.
func oneAndAll(c ice.Cell, is func(i ice.Ice) bool) (bool, bool) {
	one, all := false, true
	for i := range ends(c) {
		so := is(i)
		one, all = one || so, all && so
	}
	return one, all
}

// slowestAndFastest returns the least and the greatest speed in the ices of a cell. It suffices to ask the ends, as no speed is greater in more ice.
func slowestAndFastest(c ice.Cell, speed func(i ice.Ice) int) api.Span {
	v := api.Span{Lo: MaxSpeed}
	for i := range ends(c) {
		at := speed(i)
		v = api.Span{Lo: min(v.Lo, at), Hi: max(v.Hi, at)}
	}
	return v
}

// Resistance returns the resistance of a ship in an ice at a speed.
func Resistance(s Ship, i ice.Ice, v int, channel bool) (int, api.Errno) {
	if e := cmp.Or(Check(s), ice.CheckIce(i), checkSpeed(v)); e != api.OK {
		return 0, e
	}
	return sailing{s, i, channel}.resistance(v), api.OK
}

// Makes reports whether a ship can make a speed.
func Makes(s Ship, i ice.Ice, v int, channel bool) (bool, api.Errno) {
	if e := cmp.Or(Check(s), ice.CheckIce(i), checkSpeed(v)); e != api.OK {
		return false, e
	}
	return sailing{s, i, channel}.makes(v), api.OK
}

// Speed returns the speed of a ship in an ice.
func Speed(s Ship, i ice.Ice, channel bool) (int, api.Errno) {
	if e := cmp.Or(Check(s), ice.CheckIce(i)); e != api.OK {
		return 0, e
	}
	return sailing{s, i, channel}.speed(), api.OK
}

// Speeds returns the least and the greatest speed in a cell.
func Speeds(s Ship, c ice.Cell, channel bool) (api.Span, api.Errno) {
	if e := cmp.Or(Check(s), ice.CheckCell(c)); e != api.OK {
		return api.Span{}, e
	}
	return slowestAndFastest(c, func(i ice.Ice) int { return sailing{s, i, channel}.speed() }), api.OK
}

// Beset reports whether a ship is beset in an ice of a cell, and whether in all.
func Beset(s Ship, c ice.Cell, channel bool) (bool, bool, api.Errno) {
	if e := cmp.Or(Check(s), ice.CheckCell(c)); e != api.OK {
		return false, false, e
	}
	one, all := beset(s, c, channel)
	return one, all, api.OK
}

// beset reports whether a ship that is right is beset in an ice of a cell, and whether in all.
func beset(s Ship, c ice.Cell, channel bool) (bool, bool) {
	return oneAndAll(c, func(i ice.Ice) bool { return sailing{s, i, channel}.beset() })
}

// Burn returns what a ship burns in an hour.
func Burn(s Ship, i ice.Ice, v int, channel bool) (int, api.Errno) {
	if e := cmp.Or(Check(s), ice.CheckIce(i), checkSpeed(v)); e != api.OK {
		return 0, e
	}
	g := sailing{s, i, channel}
	if !g.makes(v) {
		return 0, api.ErrNone
	}
	return g.Power/10 + roundedUp(g.resistance(v)*v, 50), api.OK
}

// Limit returns the greatest thickness of level ice in which a ship can make a speed.
func Limit(s Ship, v int, channel bool) (int, api.Errno) {
	if e := cmp.Or(Check(s), checkSpeed(v)); e != api.OK {
		return 0, e
	}
	thick, can := greatest(MaxThick, func(thick int) bool { return sailing{s, level(thick), channel}.makes(v) })
	if !can {
		return 0, api.ErrNone
	}
	return thick, api.OK
}

// Slower returns the least thickness of level ice in which a ship is slower than another one.
func Slower(a, b Ship) (int, api.Errno) {
	if e := cmp.Or(Check(a), Check(b)); e != api.OK {
		return 0, e
	}
	// One may be slower in thin ice and faster in thick ice, so that halving would not do.
	for thick := range MaxThick + 1 {
		i := level(thick)
		if (sailing{a, i, false}).speed() < (sailing{b, i, false}).speed() {
			return thick, api.OK
		}
	}
	return 0, api.ErrNone
}
