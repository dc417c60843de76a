package trove_test

import (
	"math"
	"testing"

	"trove/api"
	"trove/trove"
)

// externs: objects with these names, the first of which is 257's, the next 261's and so on.
func externs(t *testing.T, h *trove.Heap, names ...int) {
	t.Helper()
	for i, name := range names {
		wantExtern(t, h, name, 257+4*i)
	}
}

// P5, P11: a name is from 0 to MaxValue, and several objects may have one name: it is told of each.
func TestExternTakesNamesUpToTheBounds(t *testing.T) {
	h := newHeap(t, config(10, 5, 1, 1, pair))
	externs(t, h, 0, api.MaxValue, 1, 1, 0)
	wantSame(t, h, 265, 269, false)
	wantSame(t, h, 257, 273, false)
	wantStats(t, h, [6]int{5, 5, 5, 0, 0, 1})
	mustFree(t, h, 257, 261, 265, 269, 273)
	wantCollect(t, h, 5)
	wantEnded(t, h, 0, api.MaxValue, 1, 1, 0)
}

// P5: wrong inputs.
func TestExternRefusesNames(t *testing.T) {
	h := newHeap(t, config(1, 1, 1, 1, nil))
	for _, name := range []int{-1, -api.MaxValue, api.MaxValue + 1, 1 << 32, math.MinInt, math.MaxInt} {
		wantNoExtern(t, h, name, api.ErrArg)
	}
	wantStats(t, h, [6]int{0, 0, 0, 0, 0, 1})
	wantExtern(t, h, 5, 257)
}

// P5: it has no fields, of neither kind; its name is none.
func TestExternGivesAnObjectWithoutFields(t *testing.T) {
	h := newHeap(t, config(10, 3, 1, 1, pair))
	wantExtern(t, h, 4, 257)
	wantStats(t, h, [6]int{1, 1, 1, 0, 0, 1})
	for _, i := range []int{0, 1, -1, math.MinInt, math.MaxInt} {
		wantNoNumber(t, h.Get, 257, i)
		wantFault(t, "Set", h.Set(257, i, 1), api.ErrField, 0)
		wantNoReference(t, h, 257, i)
	}
	wantStats(t, h, [6]int{1, 1, 1, 0, 0, 1})
}

// P5, P6, P7: it is an object as others are: handles of every kind and references can be of it.
func TestExternGivesAnObjectAsOthersAre(t *testing.T) {
	h := newHeap(t, config(10, 3, 1, 1, pair))
	wantExtern(t, h, 4, 257)
	wantMake(t, h, 0, 261)
	mustPoint(t, h, 261, 1, 257)
	wantRef(t, h, api.Weak, 257, 259)
	wantRef(t, h, api.Global, 259, 258)
	mustFree(t, h, 257)
	wantBadHandle(t, h, 257, api.ErrStale)
	wantFollow(t, h, 261, 1, 513)
	wantSame(t, h, 513, 258, true)
	wantSame(t, h, 513, 261, false)
	mustFree(t, h, 513, 258)
	wantCollect(t, h, 0)
	mustPoint(t, h, 261, 1, 0)
	wantCollect(t, h, 1)
	wantBadHandle(t, h, 259, api.ErrCleared)
	wantEnded(t, h, 4)
}

// P5: the slots may be taken to the last, and the room filled to the last.
func TestExternFillsSlotsAndRoom(t *testing.T) {
	h := newHeap(t, config(5, 3, 1, 1, pair))
	externs(t, h, 7, 8, 9)
	wantNoExtern(t, h, 7, api.ErrTable)
	wantStats(t, h, [6]int{3, 3, 3, 0, 0, 1})
	h = newHeap(t, config(4, 3, 1, 1, pair))
	wantMake(t, h, 0, 257)
	wantExtern(t, h, 7, 261)
	wantNoExtern(t, h, 8, api.ErrRoom)
	wantStats(t, h, [6]int{2, 4, 2, 0, 0, 1})
}

// P1, P5: of several reasons the first; without a name or a slot there is no collection.
func TestExternTellsTheFirstReason(t *testing.T) {
	h := newHeap(t, config(2, 1, 1, 1, pair))
	wantExtern(t, h, 7, 257)
	mustFree(t, h, 257)
	wantExtern(t, h, 8, 513)
	wantNoExtern(t, h, -1, api.ErrArg)
	wantNoExtern(t, h, 9, api.ErrTable)
	wantStats(t, h, [6]int{2, 2, 1, 0, 0, 1})
	mustFree(t, h, 513)
	wantNoExtern(t, h, api.MaxValue+1, api.ErrArg)
	wantStats(t, h, [6]int{2, 2, 0, 0, 0, 1})
	wantEnded(t, h)
	wantExtern(t, h, 9, 769)
	wantStats(t, h, [6]int{1, 1, 1, 0, 0, 1})
	wantEnded(t, h, 7, 8)
}

// P5, P10: Extern collects when room is wanted, and not before.
func TestExternCollectsWhenRoomIsWanted(t *testing.T) {
	h := newHeap(t, config(4, 3, 1, 1, pair))
	wantMake(t, h, 0, 257)
	wantRef(t, h, api.Weak, 257, 259)
	mustFree(t, h, 257)
	wantExtern(t, h, 1, 513)
	wantGet(t, h, 259, 0, 0)
	wantStats(t, h, [6]int{2, 4, 1, 0, 1, 1})
	wantExtern(t, h, 2, 261)
	wantBadHandle(t, h, 259, api.ErrCleared)
	wantStats(t, h, [6]int{2, 2, 2, 0, 1, 1})
	wantEnded(t, h)
}

// P5, P12: what a refused Extern collected is gone, and what somebody comes to is not.
func TestARefusedExternHasCollected(t *testing.T) {
	h := newHeap(t, config(4, 4, 1, 1, pair))
	wantMake(t, h, 0, 257)
	mustSet(t, h, 257, 0, 6)
	wantExtern(t, h, 1, 261)
	mustFree(t, h, 261)
	wantExtern(t, h, 2, 517)
	wantEnded(t, h, 1)
	wantNoExtern(t, h, 3, api.ErrRoom)
	wantStats(t, h, [6]int{2, 4, 2, 0, 0, 1})
	wantEnded(t, h)
	wantGet(t, h, 257, 0, 6)
	mustFree(t, h, 517)
	wantExtern(t, h, 4, 773)
	wantEnded(t, h, 2)
}

// P13: objects with names hold nobody and are held by nobody else.
func TestAHeapOfExternsIsEmptyBehindACollect(t *testing.T) {
	h := newHeap(t, config(10, 4, 1, 1, pair))
	externs(t, h, 3, 2, 1)
	mustFree(t, h, 257, 261, 265)
	wantCollect(t, h, 3)
	wantCollect(t, h, 0)
	wantStats(t, h, [6]int{0, 0, 0, 0, 0, 1})
	wantEnded(t, h, 3, 2, 1)
}
