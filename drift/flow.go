package drift

import (
	"iter"
	"slices"

	"polynya/api"
)

const (
	// minSize is the least size of a cell, in metres.
	minSize = 100
	// thousandths is how many of them a cell has.
	thousandths = 1000
	// seconds is how many of them an hour has.
	seconds = 3600
)

// part is a number by another one, which is above 0.
type part struct{ n, by int }

// down returns a part rounded down.
func (p part) down() int {
	n := p.n / p.by
	if p.n%p.by < 0 { // Go rounds towards 0.
		n--
	}
	return n
}

// up returns a part rounded up.
func (p part) up() int { return -part{-p.n, p.by}.down() }

// spans has the spans of a flow: to the right, and down.
type spans [2]api.Span

// spansOf returns the spans of a flow.
func spansOf(f Flow) spans { return spans{f.X, f.Y} }

// upTo reports whether all numbers of spans are at most so great, either way.
func (s spans) upTo(most int) bool {
	for _, x := range s {
		if !within(x.Lo, -most, most) || !within(x.Hi, -most, most) {
			return false
		}
	}
	return true
}

// ordered reports whether no Lo is above its Hi.
func (s spans) ordered() bool {
	return !slices.ContainsFunc(s[:], func(x api.Span) bool { return x.Lo > x.Hi })
}

// by returns spans by a number, their ends rounded as lo and hi say.
func (s spans) by(n int, lo, hi func(part) int) spans {
	for i, x := range s {
		s[i] = api.Span{Lo: lo(part{x.Lo, n}), Hi: hi(part{x.Hi, n})}
	}
	return s
}

// cut returns spans with their ends cut to a number, either way.
func (s spans) cut(most int) spans {
	for i, x := range s {
		s[i] = api.Span{Lo: min(max(x.Lo, -most), most), Hi: min(max(x.Hi, -most), most)}
	}
	return s
}

// checkFlow returns the error of a flow.
func checkFlow(f Flow) api.Errno {
	if s := spansOf(f); !s.upTo(MaxMove) || !s.ordered() {
		return api.ErrDrift
	}
	return api.OK
}

// columnsAndRows returns by how many columns and rows a flow that is right can move ice. Of a whole number, 999 more by 1000, rounded down, is as much as itself by 1000, rounded up.
func columnsAndRows(f Flow) spans { return spansOf(f).by(thousandths, part.down, part.up) }

// has reports whether a flow that is right has a move.
func (f Flow) has(m Move) bool {
	s := columnsAndRows(f)
	return within(m.DX, s[0].Lo, s[0].Hi) && within(m.DY, s[1].Lo, s[1].Hi)
}

// moves yields the moves of a flow that is right, in increasing order of DY, then of DX.
func (f Flow) moves() iter.Seq[Move] {
	return func(yield func(Move) bool) {
		s := columnsAndRows(f)
		for dy := s[1].Lo; dy <= s[1].Hi; dy++ {
			for dx := s[0].Lo; dx <= s[0].Hi; dx++ {
				if !yield(Move{dx, dy}) {
					return
				}
			}
		}
	}
}

// Weather returns the flow of wind and current.
func Weather(wind, current Flow, size int) (Flow, api.Errno) {
	w, c := spansOf(wind), spansOf(current)
	if !w.upTo(MaxWind) || !c.upTo(MaxFlow) || !within(size, minSize, MaxSize) {
		return Flow{}, api.ErrRange
	}
	if !w.ordered() || !c.ordered() {
		return Flow{}, api.ErrDrift
	}
	var s spans
	for i := range s {
		s[i] = api.Span{Lo: seconds * (2*w[i].Lo + c[i].Lo), Hi: seconds * (2*w[i].Hi + c[i].Hi)}
	}
	s = s.by(size, part.down, part.up).cut(MaxMove)
	return Flow{X: s[0], Y: s[1]}, api.OK
}

// Moves returns the moves of a flow.
func Moves(f Flow) ([]Move, api.Errno) {
	if e := checkFlow(f); e != api.OK {
		return nil, e
	}
	return slices.Collect(f.moves()), api.OK
}
