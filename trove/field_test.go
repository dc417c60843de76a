package trove_test

import (
	"math"
	"testing"

	"trove/api"
	"trove/trove"
)

// P6: what was set is got, up to the bounds, and nothing else is touched.
func TestSetAndGet(t *testing.T) {
	h := newHeap(t, config(20, 3, 1, 1, []int{api.Number, api.Reference, api.Number}))
	wantMake(t, h, 0, 257)
	wantMake(t, h, 0, 261)
	wantArray(t, h, api.Number, 3, 265)
	for _, v := range []int{1, -1, 0, api.MaxValue, -api.MaxValue, 12} {
		mustSet(t, h, 257, 2, v)
		wantGet(t, h, 257, 2, v)
		wantGet(t, h, 257, 0, 0)
		wantGet(t, h, 261, 2, 0)
		wantGet(t, h, 265, 2, 0)
	}
	for i := range 3 {
		mustSet(t, h, 265, i, 50+i)
	}
	for i := range 3 {
		wantGet(t, h, 265, i, 50+i)
	}
	wantStats(t, h, [6]int{3, 12, 3, 0, 0, 1})
}

// P6: no such field, or one of the other kind.
func TestNoSuchField(t *testing.T) {
	h := newHeap(t, config(20, 3, 1, 1, []int{api.Number, api.Reference, api.Number}))
	wantMake(t, h, 0, 257)
	for _, i := range []int{-1, 1, 3, math.MinInt, math.MaxInt} {
		got, err := h.Get(257, i)
		wantRefused(t, "Get", got, err, api.ErrField, 0)
		wantFault(t, "Set", h.Set(257, i, 5), api.ErrField, 0)
	}
	wantGet(t, h, 257, 0, 0)
	wantGet(t, h, 257, 2, 0)
}

// P6: values that may not be; they leave the field as it was.
func TestSetRefusesValues(t *testing.T) {
	h := newHeap(t, config(20, 3, 1, 1, pair))
	wantMake(t, h, 0, 257)
	mustSet(t, h, 257, 0, 3)
	for _, v := range []int{api.MaxValue + 1, -api.MaxValue - 1, math.MinInt, math.MaxInt} {
		wantFault(t, "Set", h.Set(257, 0, v), api.ErrArg, 0)
		wantGet(t, h, 257, 0, 3)
	}
}

// P1, P6: of several reasons the first: the handle, the value, the field.
func TestSetTellsTheFirstReason(t *testing.T) {
	h := newHeap(t, config(20, 3, 1, 1, pair))
	wantMake(t, h, 0, 257)
	for handle, reason := range map[int]error{0: api.ErrNull, 4: api.ErrForged, 261: api.ErrStale} {
		wantFault(t, "Set: all wrong", h.Set(handle, 9, api.MaxValue+1), reason, handle)
		wantFault(t, "Set: handle and field", h.Set(handle, 9, 1), reason, handle)
		wantFault(t, "Set: handle and value", h.Set(handle, 0, api.MaxValue+1), reason, handle)
		got, err := h.Get(handle, 9)
		wantRefused(t, "Get: handle and field", got, err, reason, handle)
	}
	for _, i := range []int{-1, 1, 2} {
		wantFault(t, "Set: value and field", h.Set(257, i, api.MaxValue+1), api.ErrArg, 0)
	}
}

// P3: the document's table.
func TestHandlesOfTheDocument(t *testing.T) {
	h := newHeap(t, config(10, 3, 2, 2, pair))
	wantMake(t, h, 0, 257)
	wantBadHandle(t, h, 0, api.ErrNull)
	for _, handle := range []int{4, -1, 1, 256*51 + 1, 256 + 4*3 + 1} {
		wantBadHandle(t, h, handle, api.ErrForged)
	}
}

// P3: numbers far from any handle.
func TestHandlesFarOff(t *testing.T) {
	h := newHeap(t, config(10, 3, 2, 2, pair))
	wantMake(t, h, 0, 257)
	for _, handle := range []int{math.MinInt, math.MinInt + 1, -257, -256, math.MaxInt, math.MaxInt - 2, 1<<62 + 257, 1<<32 + 257, 1<<31 + 257, 1<<16 + 257} {
		wantBadHandle(t, h, handle, api.ErrForged)
	}
}

// P3: all handles that there can be, and many that there cannot, of tables of different sizes.
func TestEveryHandle(t *testing.T) {
	slots := map[int]int{api.Local: 5, api.Global: 3, api.Weak: 16}
	h := newHeap(t, config(100, slots[api.Local], slots[api.Global], slots[api.Weak], pair))
	good := map[int]int{257: 0, 261: 1, 265: 2}
	for i := range len(good) {
		wantMake(t, h, 0, 257+4*i)
		mustSet(t, h, 257+4*i, 0, 40+i)
	}
	for handle := -600; handle < 256*(api.MaxGeneration+14); handle++ {
		if i, ok := good[handle]; ok {
			wantGet(t, h, handle, 0, 40+i)
			continue
		}
		wantBadHandle(t, h, handle, reasonOf(handle, slots))
	}
	wantStats(t, h, [6]int{3, 9, 3, 0, 0, 1})
}

// reasonOf: why a handle that was not given out is refused. The handles that can be good are built up here, not taken apart as the program does.
func reasonOf(handle int, slots map[int]int) error {
	if handle == 0 {
		return api.ErrNull
	}
	for kind, n := range slots {
		for slot := range n {
			for generation := 1; generation <= api.MaxGeneration; generation++ {
				if handle == kind+4*slot+256*generation {
					return api.ErrStale
				}
			}
		}
	}
	return api.ErrForged
}

func wantBadHandle(t *testing.T, h *trove.Heap, handle int, reason error) {
	t.Helper()
	got, err := h.Get(handle, 0)
	wantRefused(t, "Get", got, err, reason, handle)
	wantFault(t, "Set", h.Set(handle, 0, 1), reason, handle)
}
