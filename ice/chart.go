package ice

import (
	"cmp"
	"slices"

	"polynya/api"
)

// checkFrame returns the error of the sides and of the hour of a chart.
func checkFrame(w, h, hour int) api.Errno {
	// The sides come before their product, which may not fit an int.
	if !within(w, 1, api.MaxSide) || !within(h, 1, api.MaxSide) || w*h > api.MaxCells {
		return api.ErrRange
	}
	return checkHour(hour)
}

// CheckChart returns the error of a chart.
func CheckChart(c Chart) api.Errno {
	if e := checkFrame(c.W, c.H, c.Hour); e != api.OK {
		return e
	}
	if len(c.Cells) != c.W*c.H {
		return api.ErrArg
	}
	return firstWrong(c.Cells, CheckCell)
}

// checkCharts returns the error of two charts, cell by cell.
func checkCharts(a, b Chart) api.Errno {
	if e := firstWrong([]Chart{a, b}, CheckChart); e != api.OK {
		return e
	}
	if a.W != b.W || a.H != b.H || a.Hour != b.Hour {
		return api.ErrArg
	}
	return api.OK
}

// chartOf returns the chart that has the cell of each index.
func chartOf(w, h, hour int, cell func(i int) Cell) Chart {
	c := Chart{W: w, H: h, Hour: hour, Cells: make([]Cell, w*h)}
	for i := range c.Cells {
		c.Cells[i] = cell(i)
	}
	return c
}

// Blank returns a chart of whole cells.
func Blank(w, h, hour int) (Chart, api.Errno) {
	if e := checkFrame(w, h, hour); e != api.OK {
		return Chart{}, e
	}
	return chartOf(w, h, hour, func(int) Cell { return Whole() }), api.OK
}

// Draw returns the chart of reports.
func Draw(w, h int, l []Report, m Rates, now int) (Chart, []int, api.Errno) {
	if e := cmp.Or(checkFrame(w, h, now), CheckRates(m)); e != api.OK {
		return Chart{}, nil, e
	}
	if len(l) > MaxAll {
		return Chart{}, nil, api.ErrMany
	}
	if e := (work{m, now, l}).check(func(r Report) bool { return r.X >= w || r.Y >= h }); e != api.OK {
		return Chart{}, nil, e
	}
	found := byCell(l)
	var left []int
	c := chartOf(w, h, now, func(i int) Cell {
		here := found[[2]int{i % w, i / w}]
		of := work{m, now, pick(l, here)}
		trusted, cell := of.trusted()
		for _, k := range without(trusted, len(here)) {
			left = append(left, here[k])
		}
		return cell
	})
	slices.Sort(left)
	return c, left, api.OK
}

// byCell returns the indices of the reports of each cell, by its column and row.
func byCell(l []Report) map[[2]int][]int {
	found := map[[2]int][]int{}
	for i, r := range l {
		at := [2]int{r.X, r.Y}
		found[at] = append(found[at], i)
	}
	return found
}

// pick returns the reports at some indices.
func pick(l []Report, indices []int) []Report {
	picked := make([]Report, len(indices))
	for k, i := range indices {
		picked[k] = l[i]
	}
	return picked
}

// AgeChart returns a chart some hours later.
func AgeChart(c Chart, m Rates, hours int) (Chart, api.Errno) {
	if e := cmp.Or(CheckChart(c), CheckRates(m)); e != api.OK {
		return Chart{}, e
	}
	if !within(hours, 0, api.MaxHour-c.Hour) {
		return Chart{}, api.ErrRange
	}
	return chartOf(c.W, c.H, c.Hour+hours, func(i int) Cell {
		return aged(c.Cells[i], m.Up, m.Down, hours)
	}), api.OK
}

// MeetCharts returns what two charts have in common.
func MeetCharts(a, b Chart) (Chart, api.Errno) {
	if e := checkCharts(a, b); e != api.OK {
		return Chart{}, e
	}
	all := true
	c := chartOf(a.W, a.H, a.Hour, func(i int) Cell {
		x, common := meet(a.Cells[i], b.Cells[i])
		all = all && common
		return x
	})
	if !all {
		return Chart{}, api.ErrEmpty
	}
	return c, api.OK
}

// HullCharts returns the least chart in which two are inside.
func HullCharts(a, b Chart) (Chart, api.Errno) {
	if e := checkCharts(a, b); e != api.OK {
		return Chart{}, e
	}
	return chartOf(a.W, a.H, a.Hour, func(i int) Cell { return hull(a.Cells[i], b.Cells[i]) }), api.OK
}

// InsideChart reports whether a chart is inside another one.
func InsideChart(a, b Chart) (bool, api.Errno) {
	if e := checkCharts(a, b); e != api.OK {
		return false, e
	}
	for i, x := range a.Cells {
		if !inside(x, b.Cells[i]) {
			return false, api.OK
		}
	}
	return true, api.OK
}

// Holds reports whether a chart holds a field.
func Holds(c Chart, field []Ice) (bool, api.Errno) {
	if e := CheckChart(c); e != api.OK {
		return false, e
	}
	if len(field) != len(c.Cells) {
		return false, api.ErrArg
	}
	if e := firstWrong(field, CheckIce); e != api.OK {
		return false, e
	}
	for i, x := range field {
		if !has(c.Cells[i], x) {
			return false, api.OK
		}
	}
	return true, api.OK
}
