package trove_test

import (
	"math"
	"slices"
	"testing"

	"trove/api"
	"trove/trove"
)

// P2: all that is good, up to the bounds.
func TestNewMakesAnEmptyHeapWithOneFrame(t *testing.T) {
	full := slices.Repeat([]int{api.Reference}, api.MaxFields)
	for name, c := range map[string]api.Config{
		"least":             config(1, 1, 1, 1, nil),
		"most":              config(api.MaxRoom, api.MaxSlots, api.MaxSlots, api.MaxSlots, slices.Repeat([][]int{full}, api.MaxClasses)...),
		"both kinds":        config(10, 3, 2, 2, pair),
		"class too big":     config(1, 1, 1, 1, full),
		"fields and none":   config(10, 3, 2, 2, pair, nil, []int{}),
		"only locals most":  config(10, api.MaxSlots, 1, 1, pair),
		"only globals most": config(10, 1, api.MaxSlots, 1, pair),
		"only weaks most":   config(10, 1, 1, api.MaxSlots, pair),
	} {
		t.Run(name, func(t *testing.T) {
			wantStats(t, newHeap(t, c), [6]int{0, 0, 0, 0, 0, 1})
		})
	}
}

// P2: each number just outside its bounds, and far outside.
func TestNewRefusesNumbersOutsideTheirBounds(t *testing.T) {
	for name, k := range map[string]struct {
		most int
		set  func(c *api.Config, v int)
	}{
		"Room":    {api.MaxRoom, func(c *api.Config, v int) { c.Room = v }},
		"Locals":  {api.MaxSlots, func(c *api.Config, v int) { c.Locals = v }},
		"Globals": {api.MaxSlots, func(c *api.Config, v int) { c.Globals = v }},
		"Weaks":   {api.MaxSlots, func(c *api.Config, v int) { c.Weaks = v }},
	} {
		for _, v := range []int{0, -1, k.most + 1, math.MinInt, math.MaxInt} {
			c := config(10, 3, 2, 2, pair)
			k.set(&c, v)
			wantNoHeap(t, name, c)
		}
	}
}

// P2: wrong lists of classes; the wrong class or field is not always the first.
func TestNewRefusesClasses(t *testing.T) {
	long := slices.Repeat([]int{api.Number}, api.MaxFields+1)
	for name, classes := range map[string][][]int{
		"no classes":          nil,
		"an empty list":       {},
		"a class too many":    make([][]int, api.MaxClasses+1),
		"a field too many":    {long},
		"too long at the end": {pair, nil, long},
		"kind 0":              {{0}},
		"kind 3":              {{3}},
		"kind -1":             {{-1}},
		"greatest kind":       {{math.MaxInt}},
		"least kind":          {{math.MinInt}},
		"last field of last":  {pair, {api.Number, api.Reference, 0}},
	} {
		wantNoHeap(t, name, config(10, 3, 2, 2, classes...))
	}
}

func wantNoHeap(t *testing.T, what string, c api.Config) {
	t.Helper()
	h, err := trove.New(c)
	wantFault(t, what, err, api.ErrArg, 0)
	if h != nil {
		t.Errorf("%s: a heap beside an error", what)
	}
}

// P1: what is handed in is not written into, nor what stands behind it.
func TestNewLeavesWhatIsHandedIn(t *testing.T) {
	behind := []int{api.Number, api.Reference, 77, 78}
	classes := [][]int{behind[:2], behind[2:2], {79}}
	h := newHeap(t, config(10, 3, 2, 2, classes[:2]...))
	wantMake(t, h, 0, 257)
	mustSet(t, h, 257, 0, 5)
	wantMake(t, h, 1, 261)
	if !slices.Equal(behind, []int{api.Number, api.Reference, 77, 78}) {
		t.Errorf("a class was written into: %v", behind)
	}
	if len(classes[0]) != 2 || len(classes[1]) != 0 || !slices.Equal(classes[2], []int{79}) {
		t.Errorf("the classes were written into: %v", classes)
	}
}

// P1: what is handed in is not kept: the caller may write into it.
func TestNewKeepsNothingHandedIn(t *testing.T) {
	kinds := []int{api.Number, api.Number}
	classes := [][]int{kinds, {api.Number}}
	h := newHeap(t, config(20, 4, 2, 2, classes...))
	kinds[0] = api.Reference
	wantMake(t, h, 0, 257)
	wantGet(t, h, 257, 0, 0)
	kinds[1] = 99
	wantGet(t, h, 257, 1, 0)
	classes[1] = nil
	wantMake(t, h, 1, 261)
	wantGet(t, h, 261, 0, 0)
	wantStats(t, h, [6]int{2, 5, 2, 0, 0, 1})
}

// P1: heaps have nothing to do with one another, not even those of one configuration.
func TestHeapsAreApart(t *testing.T) {
	c := config(10, 3, 2, 2, pair)
	a, b := newHeap(t, c), newHeap(t, c)
	wantMake(t, a, 0, 257)
	mustSet(t, a, 257, 0, 7)
	wantStats(t, b, [6]int{0, 0, 0, 0, 0, 1})
	got, err := b.Get(257, 0)
	wantRefused(t, "Get of the other heap's handle", got, err, api.ErrStale, 257)
	wantMake(t, b, 0, 257)
	wantGet(t, b, 257, 0, 0)
	mustSet(t, b, 257, 0, 8)
	wantGet(t, a, 257, 0, 7)
	wantStats(t, a, [6]int{1, 3, 1, 0, 0, 1})
}
