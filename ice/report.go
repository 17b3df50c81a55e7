package ice

import (
	"cmp"
	"iter"
	"slices"

	"polynya/api"
)

// maxId is the greatest Id of a report.
const maxId = 1000000

// set has a truth for each report of a cell: whether it is in the set.
type set [MaxReports]bool

// sets yields all sets of n reports in the order of their truths, true before false.
func sets(n int) iter.Seq[set] {
	return func(yield func(set) bool) {
		for left := range 1 << n {
			var s set
			for i := range n {
				s[i] = left>>(n-1-i)&1 == 0
			}
			if !yield(s) {
				return
			}
		}
	}
}

// size returns how many reports a set has.
func (s set) size() int {
	n := 0
	for _, in := range s {
		if in {
			n++
		}
	}
	return n
}

// work is a list of reports at work: what they tell now, at the rates that it has.
type work struct {
	Rates
	now     int
	reports []Report
}

// about reports whether a report tells a quantity.
func about(r Report, q int) bool { return r.Has>>q&1 == 1 }

// rightReport reports whether all of a report that counts is allowed.
func rightReport(r Report) bool {
	s := spansOf(r.Cell)
	return within(r.Id, 0, maxId) && within(r.Source, Satellite, Ship) && within(r.At, 0, api.MaxHour) &&
		within(r.X, 0, api.MaxSide-1) && within(r.Y, 0, api.MaxSide-1) && within(r.Has, 1, 1<<quantities-1) &&
		every(func(q int) bool { return !about(r, q) || rightSpan(s[q], q) })
}

// check returns the error of the first report that has one; astray says which cells are not meant.
func (w work) check(astray func(r Report) bool) api.Errno {
	ids, came := map[int]bool{}, map[[2]int]int{}
	return firstWrong(w.reports, func(r Report) api.Errno {
		at := [2]int{r.X, r.Y}
		switch {
		case !rightReport(r):
			return api.ErrIce
		case ids[r.Id]:
			return api.ErrTwice
		case astray(r):
			return api.ErrArg
		case r.At > w.now:
			return api.ErrTime
		case came[at] == MaxReports:
			return api.ErrMany
		}
		ids[r.Id] = true
		came[at]++
		return api.OK
	})
}

// tells returns what a report tells now.
func (w work) tells(r Report) Cell {
	s, whole := spansOf(r.Cell), spansOf(Whole())
	told := cellOf(func(q int) api.Span {
		if about(r, q) {
			return s[q]
		}
		return whole[q]
	})
	return aged(told, w.Up, w.Down, w.now-r.At)
}

// told returns what each report tells now.
func (w work) told() []Cell {
	cells := make([]Cell, len(w.reports))
	for i, r := range w.reports {
		cells[i] = w.tells(r)
	}
	return cells
}

// common returns the ice that all cells of a set have, and whether there is some.
func common(cells []Cell, s set) (Cell, bool) {
	c, agree := Whole(), true
	for i, x := range cells {
		if s[i] {
			c, agree = meet(c, x)
		}
		if !agree {
			return Cell{}, false
		}
	}
	return c, true
}

// greatest returns the greatest sets of cells that have ice in common, in the order of sets.
func greatest(cells []Cell) []set {
	var found []set
	most := 0
	for s := range sets(len(cells)) {
		n := s.size()
		if n < most {
			continue
		}
		if _, agree := common(cells, s); !agree {
			continue
		}
		if n > most {
			found, most = nil, n
		}
		found = append(found, s)
	}
	return found
}

// trusted returns the set of the trusted reports of one cell, and what they tell together.
func (w work) trusted() (set, Cell) {
	cells := w.told()
	s := greatest(cells)[0]
	c, _ := common(cells, s)
	return s, c
}

// Tells returns what a report tells.
func Tells(r Report, m Rates, now int) (Cell, api.Errno) {
	if e := cmp.Or(CheckRates(m), checkHour(now)); e != api.OK {
		return Cell{}, e
	}
	w := work{m, now, []Report{r}}
	if e := w.check(func(Report) bool { return false }); e != api.OK {
		return Cell{}, e
	}
	return w.tells(r), api.OK
}

// ofOneCell returns reports of one cell at work.
func ofOneCell(l []Report, m Rates, now int) (work, api.Errno) {
	if e := cmp.Or(CheckRates(m), checkHour(now)); e != api.OK {
		return work{}, e
	}
	if len(l) > MaxReports {
		return work{}, api.ErrMany
	}
	w := work{m, now, l}
	return w, w.check(func(r Report) bool { return r.X != l[0].X || r.Y != l[0].Y })
}

// Fuse returns what reports tell together.
func Fuse(l []Report, m Rates, now int) (Cell, api.Errno) {
	w, e := ofOneCell(l, m, now)
	if e != api.OK {
		return Cell{}, e
	}
	c := Whole()
	for _, x := range w.told() {
		var agree bool
		if c, agree = meet(c, x); !agree {
			return Cell{}, api.ErrEmpty
		}
	}
	return c, api.OK
}

// Conflicts returns the pairs of reports that are in conflict.
func Conflicts(l []Report, m Rates, now int) ([][2]int, api.Errno) {
	w, e := ofOneCell(l, m, now)
	if e != api.OK {
		return nil, e
	}
	var pairs [][2]int
	cells := w.told()
	for i := range cells {
		for k := i + 1; k < len(cells); k++ {
			if _, agree := meet(cells[i], cells[k]); !agree {
				pairs = append(pairs, [2]int{i, k})
			}
		}
	}
	return pairs, api.OK
}

// Trust returns which reports are trusted.
func Trust(l []Report, m Rates, now int) ([]bool, Cell, api.Errno) {
	w, e := ofOneCell(l, m, now)
	if e != api.OK {
		return nil, Cell{}, e
	}
	s, c := w.trusted()
	return slices.Clone(s[:len(l)]), c, api.OK
}

// Blame returns the blamed sets.
func Blame(l []Report, m Rates, now int) ([][]int, api.Errno) {
	w, e := ofOneCell(l, m, now)
	if e != api.OK {
		return nil, e
	}
	var blamed [][]int
	// Of two sets, the one that keeps the first report in which they differ blames a later one: so the order turns round.
	for _, s := range slices.Backward(greatest(w.told())) {
		blamed = append(blamed, without(s, len(l)))
	}
	return blamed, api.OK
}

// without returns the indices of those of n reports that are not in a set.
func without(s set, n int) []int {
	var out []int
	for i, in := range s[:n] {
		if !in {
			out = append(out, i)
		}
	}
	return out
}

// Guilt returns how far reports are to blame.
func Guilt(l []Report, m Rates, now int) ([]int, api.Errno) {
	blamed, e := Blame(l, m, now)
	if e != api.OK {
		return nil, e
	}
	times := make([]int, len(l))
	for _, b := range blamed {
		for _, i := range b {
			times[i]++
		}
	}
	guilt := make([]int, len(l))
	for i, n := range times {
		switch {
		case n == len(blamed):
			guilt[i] = 2
		case n > 0:
			guilt[i] = 1
		}
	}
	return guilt, api.OK
}
