package drift

import (
	"slices"

	"polynya/api"
	"polynya/ice"
)

// joiner returns what joins ice with all that came to a cell before. Conc is not cut until all has come, as the excess is what is over.
func joiner(sums []ice.Ice) func(x ice.Ice, to int) {
	return func(x ice.Ice, to int) {
		if x.Conc == 0 {
			return
		}
		s := &sums[to]
		s.Conc += x.Conc
		s.Thick = max(s.Thick, x.Thick)
		s.Ridge = max(s.Ridge, x.Ridge)
	}
}

// settled returns the ice of a cell from the sum of what came to it, and the excess.
func settled(sum ice.Ice) (ice.Ice, int) {
	over := max(sum.Conc-ice.MostConc, 0)
	return ice.Ice{
		Conc:  sum.Conc - over,
		Thick: min(sum.Thick+part{over, 10}.down(), ice.MostThick),
		Ridge: min(sum.Ridge+part{over, 5}.down(), ice.MostRidge),
		Press: min(part{over, 25}.up(), ice.MostPress),
	}, over
}

// least returns the least ice of a cell.
func least(c ice.Cell) ice.Ice {
	return ice.Ice{Conc: c.Conc.Lo, Thick: c.Thick.Lo, Ridge: c.Ridge.Lo, Press: c.Press.Lo}
}

// greatest returns the greatest ice of a cell.
func greatest(c ice.Cell) ice.Ice {
	return ice.Ice{Conc: c.Conc.Hi, Thick: c.Thick.Hi, Ridge: c.Ridge.Hi, Press: c.Press.Hi}
}

// between returns the cell whose spans are from one ice to another one.
func between(lo, hi ice.Ice) ice.Cell {
	return ice.Cell{
		Conc:  api.Span{Lo: lo.Conc, Hi: hi.Conc},
		Thick: api.Span{Lo: lo.Thick, Hi: hi.Thick},
		Ridge: api.Span{Lo: lo.Ridge, Hi: hi.Ridge},
		Press: api.Span{Lo: lo.Press, Hi: hi.Press},
	}
}

// checkMoves returns the error of the first cell that has one: of its ice, or of its move.
func (w work) checkMoves(field []ice.Ice, moves []Move) api.Errno {
	for i, land := range w.Land {
		if e := ice.CheckIce(field[i]); e != api.OK {
			return e
		}
		if land && field[i] != (ice.Ice{}) || !land && !w.flows[i].has(moves[i]) {
			return api.ErrDrift
		}
	}
	return api.OK
}

// Drift returns a field after a step, and the excess.
func Drift(b Basin, l []Flow, field []ice.Ice, moves []Move) ([]ice.Ice, []int, api.Errno) {
	if e := CheckFlows(b, l); e != api.OK {
		return nil, nil, e
	}
	if len(field) != len(l) || len(moves) != len(l) {
		return nil, nil, api.ErrArg
	}
	w := work{b, l}
	if e := w.checkMoves(field, moves); e != api.OK {
		return nil, nil, e
	}
	after, over := make([]ice.Ice, len(l)), make([]int, len(l))
	join := joiner(after)
	for i, x := range field {
		if !w.Land[i] {
			join(x, w.target(i, moves[i]))
		}
	}
	for i, sum := range after {
		after[i], over[i] = settled(sum)
	}
	return after, over, api.OK
}

// step returns the chart an hour later of one that is right.
func (w work) step(c ice.Chart) ice.Chart {
	low, high := make([]ice.Ice, len(c.Cells)), make([]ice.Ice, len(c.Cells))
	joinLow, joinHigh := joiner(low), joiner(high)
	for i, x := range c.Cells {
		if w.Land[i] {
			continue
		}
		targets := w.targets(i)
		for _, to := range targets {
			joinHigh(greatest(x), to)
		}
		if len(targets) == 1 {
			joinLow(least(x), targets[0])
		}
	}
	next := ice.Chart{W: c.W, H: c.H, Hour: c.Hour + 1, Cells: make([]ice.Cell, len(c.Cells))}
	for i := range next.Cells {
		lo, _ := settled(low[i])
		hi, _ := settled(high[i])
		next.Cells[i] = between(lo, hi)
	}
	return next
}

// age ages all sea cells of a chart that is right by one hour.
func (w work) age(c ice.Chart, m ice.Rates) {
	for i, land := range w.Land {
		if !land {
			c.Cells[i], _ = ice.Age(c.Cells[i], m, 1)
		}
	}
}

// checkNext returns ErrRange if there is no hour after that of a chart.
func checkNext(c ice.Chart) api.Errno {
	if c.Hour+1 > api.MaxHour {
		return api.ErrRange
	}
	return api.OK
}

// Step returns the chart an hour later.
func Step(b Basin, l []Flow, c ice.Chart) (ice.Chart, api.Errno) {
	if e := CheckFlows(b, l); e != api.OK {
		return ice.Chart{}, e
	}
	w := work{b, l}
	if e := w.checkShores(c); e != api.OK {
		return ice.Chart{}, e
	}
	if e := checkNext(c); e != api.OK {
		return ice.Chart{}, e
	}
	return w.step(c), api.OK
}

// checkSteps returns the error of a basin, or ErrMany if there are too many steps.
func checkSteps(b Basin, l [][]Flow) api.Errno {
	if e := CheckBasin(b); e != api.OK {
		return e
	}
	if len(l) > MaxSteps {
		return api.ErrMany
	}
	return api.OK
}

// checkRun returns the error of a run, but for those of its steps.
func checkRun(b Basin, l [][]Flow, c ice.Chart, m ice.Rates) api.Errno {
	if e := checkSteps(b, l); e != api.OK {
		return e
	}
	if e := (work{Basin: b}).checkShores(c); e != api.OK {
		return e
	}
	return ice.CheckRates(m)
}

// Run returns the charts of several steps.
func Run(b Basin, l [][]Flow, c ice.Chart, m ice.Rates) ([]ice.Chart, api.Errno) {
	if e := checkRun(b, l, c, m); e != api.OK {
		return nil, e
	}
	c.Cells = slices.Clone(c.Cells)
	charts := []ice.Chart{c}
	for _, flows := range l {
		if e := CheckFlows(b, flows); e != api.OK {
			return nil, e
		}
		if e := checkNext(c); e != api.OK {
			return nil, e
		}
		w := work{b, flows}
		c = w.step(c)
		w.age(c, m)
		charts = append(charts, c)
	}
	return charts, api.OK
}
