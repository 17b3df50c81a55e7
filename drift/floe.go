package drift

import (
	"slices"

	"polynya/api"
)

// checkFloe returns the error of steps and of the cell of a floe.
func checkFloe(b Basin, l [][]Flow, cell int) api.Errno {
	if e := checkSteps(b, l); e != api.OK {
		return e
	}
	for _, flows := range l {
		if e := CheckFlows(b, flows); e != api.OK {
			return e
		}
	}
	if !(work{Basin: b}).isSea(cell) {
		return api.ErrArg
	}
	return api.OK
}

// cellsWith returns all sea cells of which something is so, in increasing order.
func (w work) cellsWith(is func(cell int) bool) []int {
	var l []int
	for i, land := range w.Land {
		if !land && is(i) {
			l = append(l, i)
		}
	}
	return l
}

// after returns where a floe can be after a step that is in one of some cells before.
func (w work) after(before []int) []int {
	can := make([]bool, len(w.Land))
	for _, i := range before {
		for _, to := range w.targets(i) {
			can[to] = true
		}
	}
	return w.cellsWith(func(cell int) bool { return can[cell] })
}

// before returns where a floe can have been before a step that is in one of some cells after it.
func (w work) before(after []int) []int {
	is := make([]bool, len(w.Land))
	for _, i := range after {
		is[i] = true
	}
	return w.cellsWith(func(cell int) bool {
		return slices.ContainsFunc(w.targets(cell), func(to int) bool { return is[to] })
	})
}

// Reach returns where a floe can be.
func Reach(b Basin, l [][]Flow, cell int) ([][]int, api.Errno) {
	if e := checkFloe(b, l, cell); e != api.OK {
		return nil, e
	}
	places := [][]int{{cell}}
	for i, flows := range l {
		places = append(places, work{b, flows}.after(places[i]))
	}
	return places, api.OK
}

// Origin returns where a floe can have been.
func Origin(b Basin, l [][]Flow, cell int) ([][]int, api.Errno) {
	if e := checkFloe(b, l, cell); e != api.OK {
		return nil, e
	}
	places := [][]int{{cell}}
	for _, flows := range slices.Backward(l) {
		places = append(places, work{b, flows}.before(places[len(places)-1]))
	}
	return places, api.OK
}
