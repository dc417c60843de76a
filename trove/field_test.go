package trove_test

import (
	"math"
	"testing"

	"trove/api"
)

// P6: what was set is got, up to the bounds, and nothing else is touched.
func TestSetAndGet(t *testing.T) {
	h := newHeap(t, config(20, 3, 1, 1, []int{api.Number, api.Reference, api.Number}))
	wantMake(t, h, 0, 257)
	wantMake(t, h, 0, 261)
	wantArray(t, h, api.Number, 3, 265)
	for _, v := range []int{1, -1, 0, api.MaxValue, -api.MaxValue, 12} {
		mustSet(t, h, 257, 2, v)
		wantGet(t, h, 257, 2, v)
		wantGet(t, h, 257, 0, 0)
		wantGet(t, h, 261, 2, 0)
		wantGet(t, h, 265, 2, 0)
	}
	for i := range 3 {
		mustSet(t, h, 265, i, 50+i)
	}
	for i := range 3 {
		wantGet(t, h, 265, i, 50+i)
	}
	wantStats(t, h, [6]int{3, 12, 3, 0, 0, 1})
}

// P6: no such field, or one of the other kind.
func TestNoSuchField(t *testing.T) {
	h := newHeap(t, config(20, 3, 1, 1, []int{api.Number, api.Reference, api.Number}))
	wantMake(t, h, 0, 257)
	for _, i := range []int{-1, 1, 3, math.MinInt, math.MaxInt} {
		got, err := h.Get(257, i)
		wantRefused(t, "Get", got, err, api.ErrField, 0)
		wantFault(t, "Set", h.Set(257, i, 5), api.ErrField, 0)
	}
	wantGet(t, h, 257, 0, 0)
	wantGet(t, h, 257, 2, 0)
}

// P6: values that may not be; they leave the field as it was.
func TestSetRefusesValues(t *testing.T) {
	h := newHeap(t, config(20, 3, 1, 1, pair))
	wantMake(t, h, 0, 257)
	mustSet(t, h, 257, 0, 3)
	for _, v := range []int{api.MaxValue + 1, -api.MaxValue - 1, math.MinInt, math.MaxInt} {
		wantFault(t, "Set", h.Set(257, 0, v), api.ErrArg, 0)
		wantGet(t, h, 257, 0, 3)
	}
}

// P1, P6: of several reasons the first: the handle, the value, the field.
func TestSetTellsTheFirstReason(t *testing.T) {
	h := newHeap(t, config(20, 3, 1, 1, pair))
	wantMake(t, h, 0, 257)
	for handle, reason := range map[int]error{0: api.ErrNull, 4: api.ErrForged, 261: api.ErrStale} {
		wantFault(t, "Set: all wrong", h.Set(handle, 9, api.MaxValue+1), reason, handle)
		wantFault(t, "Set: handle and field", h.Set(handle, 9, 1), reason, handle)
		wantFault(t, "Set: handle and value", h.Set(handle, 0, api.MaxValue+1), reason, handle)
		got, err := h.Get(handle, 9)
		wantRefused(t, "Get: handle and field", got, err, reason, handle)
	}
	for _, i := range []int{-1, 1, 2} {
		wantFault(t, "Set: value and field", h.Set(257, i, api.MaxValue+1), api.ErrArg, 0)
	}
}
