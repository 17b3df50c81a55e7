package hull

import (
	"slices"
	"testing"

	"polynya/api"
	"polynya/ice"
)

// The ices at the ends of a cell are yielded once if they are equal; a loop may be left after the first one.
func TestEnds(t *testing.T) {
	least, most := ice.Ice{Conc: 1, Thick: 2, Ridge: 3}, ice.Ice{Conc: 4, Thick: 5, Ridge: 6, Press: 1}
	c := ice.Cell{Conc: api.Span{Lo: 1, Hi: 4}, Thick: api.Span{Lo: 2, Hi: 5}, Ridge: api.Span{Lo: 3, Hi: 6}, Press: api.Span{Lo: 0, Hi: 1}}
	if l := slices.Collect(ends(c)); !slices.Equal(l, []ice.Ice{most, least}) {
		t.Error(l)
	}
	for i := range ends(c) {
		if i == most {
			break
		}
		t.Error(i)
	}
	if l := slices.Collect(ends(ice.Cell{})); !slices.Equal(l, []ice.Ice{{}}) {
		t.Error(l)
	}
}
