package convoy_test

import (
	"slices"
	"testing"

	"polynya/api"
	"polynya/convoy"
)

// P5.2: tails, and what is left when a member fails.

func TestChapter(t *testing.T) {
	c := lead(2)
	if l, e := convoy.Gaps(c, 100); !slices.Equal(l, []int{605, 605}) || e != api.OK {
		t.Error(l, e)
	}
	if n, e := convoy.Tail(c, 100); n != 1450 || e != api.OK {
		t.Error(n, e)
	}
	if n, e := convoy.Open(c, 100, 0); n != 18520 || e != api.OK {
		t.Error(n, e)
	}
	c.Close[0], c.Close[1] = 4, 4
	if n, e := convoy.Open(c, 100, 0); n != 1234 || e != api.OK {
		t.Error(n, e)
	}
	if is, e := convoy.Holds(c, level(40, 60), 100); is || e != api.OK {
		t.Error(is, e)
	}
}

func TestGaps(t *testing.T) {
	for i, c := range []struct {
		change func(c *convoy.Convoy)
		v      int
		gaps   []int
		tail   int
	}{
		{func(c *convoy.Convoy) { c.Ships = nil }, 100, nil, 0},
		{func(c *convoy.Convoy) { c.Ships = c.Ships[:1] }, 100, []int{605}, 725},
		// At the speed 0 each one comes to rest at once.
		{func(c *convoy.Convoy) {}, 0, []int{50, 50}, 340},
		{func(c *convoy.Convoy) { c.Clear = 0 }, 0, []int{0, 0}, 240},
		{func(c *convoy.Convoy) {}, 250, []int{1336, 1336}, 2912},
		{func(c *convoy.Convoy) { c.Clear = 2000 }, 100, []int{2555, 2555}, 5350},
		// The Length of the Breaker does not count, that of each ship does.
		{func(c *convoy.Convoy) { c.Breaker.Length = 500 }, 100, []int{605, 605}, 1450},
		{func(c *convoy.Convoy) { c.Ships[0].Length, c.Ships[1].Length = 121, 140 }, 100, []int{605, 605}, 1471},
		// The Near is that of the one before: of the Breaker for the first ship, of this one for the second.
		{func(c *convoy.Convoy) { c.Breaker.Short = 200 }, 100, []int{505, 605}, 1350},
		{func(c *convoy.Convoy) { c.Ships[0].Short = 200 }, 100, []int{605, 505}, 1350},
		{func(c *convoy.Convoy) { c.Ships[1].Short = 200 }, 100, []int{605, 605}, 1450},
		{func(c *convoy.Convoy) { c.Breaker.Delay = 600 }, 100, []int{605, 605}, 1450},
		// A Far that is less than the Near of the one before, just this, and one more.
		{func(c *convoy.Convoy) {
			c.Breaker.Short, c.Ships[0].Delay, c.Ships[0].Stop = 500, 0, curve(0, 0, 200, 998)
		}, 100, []int{50, 605}, 895},
		{func(c *convoy.Convoy) {
			c.Breaker.Short, c.Ships[0].Delay, c.Ships[0].Stop = 500, 0, curve(0, 0, 200, 1000)
		}, 100, []int{50, 605}, 895},
		{func(c *convoy.Convoy) {
			c.Breaker.Short, c.Ships[0].Delay, c.Ships[0].Stop = 500, 0, curve(0, 0, 200, 1002)
		}, 100, []int{51, 605}, 896},
		{func(c *convoy.Convoy) {
			c.Ships[0].Short, c.Ships[1].Delay, c.Ships[1].Stop = 500, 0, curve(0, 0, 200, 0)
		}, 100, []int{605, 50}, 895},
		{func(c *convoy.Convoy) {
			c.Ships[0].Short, c.Ships[1].Delay, c.Ships[1].Stop = 500, 0, curve(0, 0, 200, 1001)
		}, 100, []int{605, 51}, 896},
	} {
		x := changed(c.change)
		if l, e := convoy.Gaps(x, c.v); !slices.Equal(l, c.gaps) || e != api.OK {
			t.Error(i, l, e)
		}
		if n, e := convoy.Tail(x, c.v); n != c.tail || e != api.OK {
			t.Error(i, n, e)
		}
	}
}

func TestGapsOfAnyConvoy(t *testing.T) {
	r := random()
	for range 2000 {
		c, v := anyConvoy(r, 6), r.IntN(251)
		if l, e := convoy.Gaps(c, v); !slices.Equal(l, gapsOf(c, v)) || e != api.OK {
			t.Fatal(c, v, l, gapsOf(c, v), e)
		}
		if n, e := convoy.Tail(c, v); n != tailOf(c, v) || e != api.OK {
			t.Fatal(c, v, n, tailOf(c, v), e)
		}
		press := r.IntN(4)
		want, _ := wayOf(v, 60*c.Close[press])
		if n, e := convoy.Open(c, v, press); n != want || e != api.OK {
			t.Fatal(c, v, press, n, want, e)
		}
	}
}

func TestOpen(t *testing.T) {
	c := lead(2)
	c.Close = [4]int{1440, 60, 3, 0}
	for i, x := range []struct {
		v, press, n int
		want        api.Errno
	}{
		{100, 0, 444480, api.OK},
		{100, 1, 18520, api.OK},
		{250, 0, 1111200, api.OK},
		// Rounded down: 30.87 and 771.67; and whole.
		{10, 2, 92, api.OK},
		{1, 2, 9, api.OK},
		{250, 2, 2315, api.OK},
		{250, 3, 0, api.OK},
		{0, 0, 0, api.OK},
		{100, -1, 0, api.ErrRange},
		{100, 4, 0, api.ErrRange},
		{-1, 0, 0, api.ErrRange},
		{251, 0, 0, api.ErrRange},
	} {
		if n, e := convoy.Open(c, x.v, x.press); n != x.n || e != x.want {
			t.Error(i, n, e)
		}
	}
}

// unequal is a convoy of three ships that come to rest, at 100, from 100 to 655, 100 to 600, 50 to 655 and 0 to 500.
func unequal() convoy.Convoy {
	c := lead(3)
	c.Ships[0].Stop = curve(0, 0, 200, 890)
	c.Ships[1].Short = 50
	c.Ships[2].Short, c.Ships[2].Delay = 0, 0
	return c
}

func TestRest(t *testing.T) {
	for i, c := range []struct {
		gaps  []int
		fails int
		went  []int
		want  []int
	}{
		// The Breaker fails.
		{[]int{605, 605, 605}, 0, []int{100, 600, 300, 0}, []int{105, 905, 905}},
		{[]int{500, 0, 1000000}, 0, []int{655, 100, 655, 500}, []int{1055, -555, 1000155}},
		// A ship between.
		{[]int{605, 605, 605}, 1, []int{100, 655, 500}, []int{50, 760}},
		{[]int{605, 605, 605}, 1, []int{600, 50, 0}, []int{1155, 655}},
		{[]int{0, 1, 2}, 2, []int{50, 500}, []int{-448}},
		// The last one: nobody is behind her.
		{[]int{605, 605, 605}, 3, []int{0}, nil},
		{[]int{605, 605, 605}, 3, []int{500}, nil},
		// One goes just into the one before.
		{[]int{605, 555, 605}, 1, []int{100, 655, 500}, []int{0, 760}},
		{[]int{605, 554, 605}, 1, []int{100, 655, 500}, []int{-1, 760}},
	} {
		if l, e := convoy.Rest(unequal(), 100, c.gaps, c.fails, c.went); !slices.Equal(l, c.want) || e != api.OK {
			t.Error(i, l, e)
		}
	}
	// The chapter's example, and a breaker alone.
	if l, e := convoy.Rest(lead(2), 100, []int{605, 605}, 0, []int{100, 655, 300}); !slices.Equal(l, []int{50, 960}) || e != api.OK {
		t.Error(l, e)
	}
	if l, e := convoy.Rest(lead(0), 100, nil, 0, []int{655}); len(l) != 0 || e != api.OK {
		t.Error(l, e)
	}
}

// Whoever fails, each went may be her Near or her Far, and not one less or one more.
func TestRestAtTheLimits(t *testing.T) {
	c := unequal()
	halts := []api.Span{span(100, 655), span(100, 600), span(50, 655), span(0, 500)}
	for fails := range halts {
		for k := range halts[fails:] {
			for _, x := range []struct {
				metres int
				want   api.Errno
			}{
				{halts[fails+k].Lo - 1, api.ErrSpace}, {halts[fails+k].Lo, api.OK},
				{halts[fails+k].Hi, api.OK}, {halts[fails+k].Hi + 1, api.ErrSpace},
			} {
				var went []int
				for _, h := range halts[fails:] {
					went = append(went, h.Lo)
				}
				went[k] = x.metres
				if l, e := convoy.Rest(c, 100, []int{0, 0, 0}, fails, went); e != x.want || e != api.OK && l != nil {
					t.Error(fails, k, x.metres, l, e)
				}
			}
		}
	}
}

func TestRestErrors(t *testing.T) {
	near := []int{100, 100, 100}
	for i, c := range []struct {
		v, fails   int
		gaps, went []int
		want       api.Errno
	}{
		{100, 0, []int{9, 9}, near, api.OK},
		{100, 0, []int{0, 1000000}, near, api.OK},
		// Not a gap for each ship.
		{100, 0, nil, near, api.ErrArg},
		{100, 0, []int{9}, near, api.ErrArg},
		{100, 0, []int{9, 9, 9}, near, api.ErrArg},
		// No member.
		{100, -1, []int{9, 9}, []int{100, 100, 100, 100}, api.ErrArg},
		{100, 3, []int{9, 9}, nil, api.ErrArg},
		{100, -1 << 63, []int{9, 9}, nil, api.ErrArg},
		{100, 1<<63 - 1, []int{9, 9}, nil, api.ErrArg},
		// Not a number for each one who comes to rest.
		{100, 0, []int{9, 9}, near[1:], api.ErrArg},
		{100, 1, []int{9, 9}, near, api.ErrArg},
		{100, 2, []int{9, 9}, nil, api.ErrArg},
		{100, 2, []int{9, 9}, near[1:], api.ErrArg},
		// Gaps, also those before the one that fails.
		{100, 0, []int{-1, 9}, near, api.ErrRange},
		{100, 0, []int{9, 1000001}, near, api.ErrRange},
		{100, 2, []int{-1, 9}, near[2:], api.ErrRange},
		{100, 0, []int{9, -1 << 63}, near, api.ErrRange},
		// In this order.
		{-1, 9, []int{9}, nil, api.ErrRange},
		{251, 0, []int{9, 9}, near, api.ErrRange},
		{100, 0, []int{-1}, near, api.ErrArg},
		{100, 3, []int{9, -1}, nil, api.ErrArg},
		{100, 0, []int{-1, 9}, []int{99, 100}, api.ErrArg},
		{100, 0, []int{9, -1}, []int{99, 100, 100}, api.ErrRange},
		{100, 0, []int{9, 9}, []int{100, 100, 1 << 62}, api.ErrSpace},
	} {
		if l, e := convoy.Rest(lead(2), c.v, c.gaps, c.fails, c.went); e != c.want || e != api.OK && l != nil {
			t.Error(i, l, e)
		}
	}
}
