package trove_test

import (
	"math"
	"testing"

	"trove/api"
	"trove/trove"
)

// P5, P6: references are to nothing at first, of objects and of arrays.
func TestReferencesAreToNothingAtFirst(t *testing.T) {
	h := newHeap(t, config(50, 3, 1, 1, []int{api.Reference, api.Number, api.Reference}))
	wantMake(t, h, 0, 257)
	wantArray(t, h, api.Reference, api.MaxElements, 261)
	wantFollow(t, h, 257, 0, 0)
	wantFollow(t, h, 257, 2, 0)
	for i := range api.MaxElements {
		wantFollow(t, h, 261, i, 0)
	}
	wantStats(t, h, [6]int{2, 4 + 33, 2, 0, 0, 1})
}

// P6: what was pointed to is followed, by a new local handle each time; no other field is touched.
func TestPointAndFollow(t *testing.T) {
	h := newHeap(t, config(50, 8, 2, 2, []int{api.Reference, api.Number, api.Reference}))
	wantMake(t, h, 0, 257)
	wantMake(t, h, 0, 261)
	mustSet(t, h, 261, 1, 8)
	mustPoint(t, h, 257, 2, 261)
	wantFollow(t, h, 257, 0, 0)
	wantGet(t, h, 257, 1, 0)
	wantFollow(t, h, 261, 2, 0)
	wantFollow(t, h, 257, 2, 265)
	wantFollow(t, h, 257, 2, 269)
	wantSame(t, h, 265, 261, true)
	wantSame(t, h, 269, 261, true)
	wantGet(t, h, 265, 1, 8)
	mustSet(t, h, 269, 1, 9)
	wantGet(t, h, 261, 1, 9)
	wantStats(t, h, [6]int{2, 8, 4, 0, 0, 1})
}

// P6: a reference can be to its own object, to another one later, and to nothing again.
func TestPointAnew(t *testing.T) {
	h := newHeap(t, config(50, 8, 2, 2, pair))
	wantMake(t, h, 0, 257)
	wantMake(t, h, 0, 261)
	mustPoint(t, h, 257, 1, 257)
	wantFollow(t, h, 257, 1, 265)
	wantSame(t, h, 265, 257, true)
	mustPoint(t, h, 265, 1, 261)
	wantFollow(t, h, 257, 1, 269)
	wantSame(t, h, 269, 261, true)
	mustPoint(t, h, 257, 1, 0)
	wantFollow(t, h, 257, 1, 0)
	wantStats(t, h, [6]int{2, 6, 4, 0, 0, 1})
}

// P6: handles of every kind can be followed, pointed and pointed to.
func TestPointByEveryKindOfHandle(t *testing.T) {
	h := newHeap(t, config(50, 2, 2, 2, pair))
	wantMake(t, h, 0, 257)
	wantMake(t, h, 0, 261)
	froms, tos := []int{257}, []int{261}
	for _, kind := range []int{api.Global, api.Weak} {
		wantRef(t, h, kind, 257, 256+kind)
		wantRef(t, h, kind, 261, 256+kind+4)
		froms, tos = append(froms, 256+kind), append(tos, 256+kind+4)
	}
	mustFree(t, h, 257)
	generation := 1
	for _, from := range froms[1:] {
		for _, to := range tos {
			mustPoint(t, h, from, 1, to)
			generation++
			wantFollow(t, h, from, 1, 1+256*generation)
			wantSame(t, h, 1+256*generation, to, true)
			mustFree(t, h, 1+256*generation)
			mustPoint(t, h, from, 1, 0)
		}
	}
	wantStats(t, h, [6]int{2, 6, 1, 2, 2, 1})
}

// P6: no such field, or one of the other kind.
func TestNoSuchReference(t *testing.T) {
	h := newHeap(t, config(50, 3, 1, 1, []int{api.Reference, api.Number, api.Reference}))
	wantMake(t, h, 0, 257)
	wantArray(t, h, api.Reference, 0, 261)
	wantArray(t, h, api.Number, 1, 265)
	for _, i := range []int{-1, 1, 3, math.MinInt, math.MaxInt} {
		wantNoReference(t, h, 257, i)
	}
	for _, i := range []int{-1, 0, 1} {
		wantNoReference(t, h, 261, i)
		wantNoReference(t, h, 265, i)
	}
	wantFollow(t, h, 257, 0, 0)
	wantFollow(t, h, 257, 2, 0)
	wantGet(t, h, 257, 1, 0)
	wantGet(t, h, 265, 0, 0)
}

func wantNoReference(t *testing.T, h *trove.Heap, handle, i int) {
	t.Helper()
	got, err := h.Follow(handle, i)
	wantRefused(t, "Follow", got, err, api.ErrField, 0)
	wantFault(t, "Point", h.Point(handle, i, handle), api.ErrField, 0)
	wantFault(t, "Point to nothing", h.Point(handle, i, 0), api.ErrField, 0)
}

// P1, P6: of several reasons the first: the handle, the one that is pointed to, the field; and nothing is changed.
func TestPointTellsTheFirstReason(t *testing.T) {
	h := newHeap(t, config(50, 3, 1, 1, pair))
	wantMake(t, h, 0, 257)
	wantMake(t, h, 0, 261)
	mustPoint(t, h, 257, 1, 261)
	for bad, reason := range map[int]error{0: api.ErrNull, 4: api.ErrForged, 513: api.ErrStale} {
		wantFault(t, "Point: all wrong", h.Point(bad, 9, 5), reason, bad)
		wantFault(t, "Point: both handles", h.Point(bad, 1, 5), reason, bad)
		wantFault(t, "Point: handle and field", h.Point(bad, 9, 0), reason, bad)
		got, err := h.Follow(bad, 9)
		wantRefused(t, "Follow: handle and field", got, err, reason, bad)
		if bad != 0 {
			wantFault(t, "Point: to and field", h.Point(257, 9, bad), reason, bad)
			wantFault(t, "Point: to", h.Point(257, 1, bad), reason, bad)
		}
	}
	wantFollow(t, h, 257, 1, 265)
	wantSame(t, h, 265, 261, true)
}

// P6: Follow asks for the field first, then for a slot, and for none where there is nothing.
func TestFollowWithoutASlot(t *testing.T) {
	h := newHeap(t, config(50, 2, 1, 1, pair))
	wantMake(t, h, 0, 257)
	wantMake(t, h, 0, 261)
	mustPoint(t, h, 257, 1, 261)
	got, err := h.Follow(257, 1)
	wantRefused(t, "Follow without a slot", got, err, api.ErrTable, 0)
	got, err = h.Follow(257, 0)
	wantRefused(t, "Follow: field and slot", got, err, api.ErrField, 0)
	wantFollow(t, h, 261, 1, 0)
	mustFree(t, h, 261)
	wantFollow(t, h, 257, 1, 517)
	wantStats(t, h, [6]int{2, 6, 2, 0, 0, 1})
}
