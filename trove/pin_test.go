package trove_test

import (
	"testing"

	"trove/api"
)

// P9: an object has up to MaxPins pins, and none less than none; what is refused changes nothing.
func TestPinsAreCounted(t *testing.T) {
	h := newHeap(t, config(10, 3, 1, 1, pair))
	wantMake(t, h, 0, 257)
	for range 2 {
		for range 2 {
			wantFault(t, "Unpin of none", h.Unpin(257), api.ErrPin, 0)
		}
		for range api.MaxPins {
			mustPin(t, h, 257)
		}
		for range 2 {
			wantFault(t, "Pin behind MaxPins", h.Pin(257), api.ErrPin, 0)
		}
		for range api.MaxPins {
			mustUnpin(t, h, 257)
		}
	}
	wantStats(t, h, [6]int{1, 3, 1, 0, 0, 1})
}

// P9: pins are the object's, whichever handle they come by, also behind the end of that handle.
func TestPinsAreTheObjects(t *testing.T) {
	h := newHeap(t, config(10, 4, 1, 1, pair))
	wantMake(t, h, 0, 257)
	wantRef(t, h, api.Global, 257, 258)
	wantRef(t, h, api.Weak, 257, 259)
	wantRef(t, h, api.Local, 257, 261)
	mustPin(t, h, 257, 258, 259)
	all := []int{257, 258, 259, 261}
	for _, handle := range all {
		wantFault(t, "Pin", h.Pin(handle), api.ErrPin, 0)
	}
	mustFree(t, h, 257, 258)
	wantFault(t, "Pin", h.Pin(259), api.ErrPin, 0)
	mustUnpin(t, h, 261, 259, 261)
	for _, handle := range []int{259, 261} {
		wantFault(t, "Unpin", h.Unpin(handle), api.ErrPin, 0)
	}
}

// P9: pins of one object are none of another, not even of one that it refers to.
func TestPinsOfObjectsAreApart(t *testing.T) {
	h := newHeap(t, config(10, 4, 1, 1, pair))
	wantMake(t, h, 0, 257)
	wantMake(t, h, 0, 261)
	mustPoint(t, h, 257, 1, 261)
	mustPin(t, h, 257, 257, 257)
	wantFault(t, "Unpin", h.Unpin(261), api.ErrPin, 0)
	mustPin(t, h, 261)
	mustUnpin(t, h, 257, 257, 257)
	wantFault(t, "Unpin", h.Unpin(257), api.ErrPin, 0)
	mustUnpin(t, h, 261)
}

// P1, P9: the handle is asked ahead of the pins, and bad ones change nothing. (wantBadHandle asks Pin and Unpin.)
func TestPinTellsTheFirstReason(t *testing.T) {
	h := newHeap(t, config(10, 3, 1, 2, pair))
	wantMake(t, h, 0, 257)
	wantRef(t, h, api.Weak, 257, 259)
	mustFree(t, h, 257)
	wantCollect(t, h, 1)
	wantMake(t, h, 0, 513)
	mustPin(t, h, 513, 513, 513)
	for handle, reason := range map[int]error{0: api.ErrNull, 259: api.ErrCleared, 257: api.ErrStale, 769: api.ErrStale, 4: api.ErrForged, -513: api.ErrForged, 513 + 1<<32: api.ErrForged} {
		wantFault(t, "Pin", h.Pin(handle), reason, handle)
		wantFault(t, "Unpin", h.Unpin(handle), reason, handle)
	}
	wantFault(t, "Pin", h.Pin(513), api.ErrPin, 0)
	mustUnpin(t, h, 513, 513, 513)
	wantFault(t, "Unpin", h.Unpin(513), api.ErrPin, 0)
}

// P9, P10: each pin holds, down to the last one.
func TestCollectKeepsWhatHasPins(t *testing.T) {
	h, locals, weaks := family(t, 3)
	mustPin(t, h, locals[1], locals[1], locals[1])
	mustFree(t, h, locals...)
	wantCollect(t, h, 2)
	for range api.MaxPins {
		wantCollect(t, h, 0)
		wantThere(t, h, weaks, 1)
		mustUnpin(t, h, weaks[1])
	}
	wantThere(t, h, weaks, 1)
	wantCollect(t, h, 1)
	wantThere(t, h, weaks)
}

// P9, P10: with its pins gone an object is held by handles and references as before.
func TestUnpinLeavesOtherHolders(t *testing.T) {
	h, locals, weaks := family(t, 3)
	mustPin(t, h, locals...)
	mustPoint(t, h, locals[0], 2, locals[1])
	mustFree(t, h, locals[1], locals[2])
	mustUnpin(t, h, locals[0], weaks[1])
	wantCollect(t, h, 0)
	wantThere(t, h, weaks, 0, 1, 2)
	mustUnpin(t, h, weaks[2])
	wantCollect(t, h, 1)
	wantThere(t, h, weaks, 0, 1)
}

// P10: what has pins holds all to which it leads; what leads to it is not held by it.
func TestPinsHoldWhereTheyLead(t *testing.T) {
	h, locals, weaks := family(t, 7)
	for _, k := range [][3]int{{0, 1, 2}, {2, 2, 3}, {3, 1, 4}, {4, 1, 2}, {3, 2, 5}, {6, 1, 6}} {
		mustPoint(t, h, locals[k[0]], k[1], locals[k[2]])
	}
	mustPin(t, h, locals[2])
	mustFree(t, h, locals...)
	wantCollect(t, h, 3)
	wantThere(t, h, weaks, 2, 3, 4, 5)
	wantFollow(t, h, weaks[2], 2, 513)
	wantGet(t, h, 513, 0, 103)
	mustPoint(t, h, 513, 2, 0)
	mustFree(t, h, 513)
	wantCollect(t, h, 1)
	wantThere(t, h, weaks, 2, 3, 4)
	mustUnpin(t, h, weaks[2])
	wantCollect(t, h, 3)
	wantThere(t, h, weaks)
}

// P10: several objects with pins, among them first and last, are all held.
func TestAllPinnedObjectsAreHeld(t *testing.T) {
	h, locals, weaks := family(t, 8)
	mustPin(t, h, locals[0], locals[3], locals[7])
	mustFree(t, h, locals...)
	wantCollect(t, h, 5)
	wantThere(t, h, weaks, 0, 3, 7)
	mustUnpin(t, h, weaks[3])
	wantCollect(t, h, 1)
	wantThere(t, h, weaks, 0, 7)
}

// P5, P10: pins hold, too, where room is wanted; without them that room is had.
func TestPinsHoldWhereRoomIsWanted(t *testing.T) {
	for name, wants := range makers {
		t.Run(name, func(t *testing.T) {
			h := newHeap(t, config(3, 4, 1, 2, pair))
			wantMake(t, h, 0, 257)
			mustSet(t, h, 257, 0, 4)
			wantRef(t, h, api.Weak, 257, 259)
			mustPin(t, h, 257)
			mustFree(t, h, 257)
			got, err := wants(h)
			wantRefused(t, name, got, err, api.ErrRoom, 0)
			wantGet(t, h, 259, 0, 4)
			wantStats(t, h, [6]int{1, 3, 0, 0, 1, 1})
			mustUnpin(t, h, 259)
			got, err = wants(h)
			wantNumber(t, name, got, err, 513)
			wantBadHandle(t, h, 259, api.ErrCleared)
		})
	}
}

// P9, P11: what has pins has not ended, and is told when it has.
func TestEndedWaitsForTheLastPin(t *testing.T) {
	h := newHeap(t, config(10, 4, 1, 3, pair))
	externs(t, h, 20, 10, 0)
	wantRef(t, h, api.Weak, 257, 259)
	wantRef(t, h, api.Weak, 265, 263)
	mustPin(t, h, 257, 265, 265)
	mustFree(t, h, 257, 261, 265)
	wantCollect(t, h, 1)
	wantEnded(t, h, 10)
	mustUnpin(t, h, 259, 263)
	wantCollect(t, h, 1)
	wantEnded(t, h, 20)
	wantEnded(t, h)
	mustUnpin(t, h, 263)
	wantCollect(t, h, 1)
	wantEnded(t, h, 0)
}

// P8, P9: pins belong to no frame: they hold behind its end, and one that was pinned outside can be let go inside.
func TestPinsOutliveFrames(t *testing.T) {
	h := newHeap(t, config(10, 3, 1, 2, pair))
	wantMake(t, h, 0, 257)
	mustPin(t, h, 257)
	mustPush(t, h)
	wantMake(t, h, 0, 261)
	mustSet(t, h, 261, 0, 3)
	mustPin(t, h, 261, 261)
	wantRef(t, h, api.Weak, 261, 259)
	mustUnpin(t, h, 257)
	wantPop(t, h, 0, 0)
	wantCollect(t, h, 0)
	wantGet(t, h, 259, 0, 3)
	mustPush(t, h)
	wantPop(t, h, 259, local(1, 2))
	mustUnpin(t, h, local(1, 2), 259)
	wantFault(t, "Unpin", h.Unpin(259), api.ErrPin, 0)
	wantFault(t, "Unpin", h.Unpin(257), api.ErrPin, 0)
	mustFree(t, h, 257, local(1, 2))
	wantCollect(t, h, 2)
}

// P8, P9: a Pop that is refused leaves the pins, too.
func TestARefusedPopLeavesPins(t *testing.T) {
	h := newHeap(t, config(10, 1, 1, 1, pair))
	wantMake(t, h, 0, 257)
	mustPin(t, h, 257, 257)
	mustPush(t, h)
	wantNoPop(t, h, 257, api.ErrTable, 0)
	mustUnpin(t, h, 257, 257)
	wantFault(t, "Unpin", h.Unpin(257), api.ErrPin, 0)
}

// P13: with pins a heap without handles is not empty, and another Collect ends nothing; without them it is.
func TestAHeapWithoutPinsIsEmptyBehindACollect(t *testing.T) {
	h, locals, weaks := family(t, 6)
	for i := range locals {
		mustPoint(t, h, locals[i], 1, locals[(i+1)%6])
	}
	mustPin(t, h, locals[4], locals[4], locals[1])
	mustFree(t, h, locals...)
	for _, i := range []int{4, 1, 4} {
		wantCollect(t, h, 0)
		mustUnpin(t, h, weaks[i])
	}
	wantCollect(t, h, 6)
	wantCollect(t, h, 0)
	wantThere(t, h, weaks)
	wantStats(t, h, [6]int{0, 0, 0, 0, 6, 1})
}

// P1: pins of one heap are not another's.
func TestPinsOfHeapsAreApart(t *testing.T) {
	a, locals, weaks := family(t, 1)
	b, others, otherWeaks := family(t, 1)
	mustPin(t, a, locals[0], locals[0], locals[0])
	wantFault(t, "Unpin", b.Unpin(others[0]), api.ErrPin, 0)
	mustPin(t, b, others[0])
	mustUnpin(t, b, others[0])
	mustFree(t, a, locals[0])
	mustFree(t, b, others[0])
	wantCollect(t, a, 0)
	wantCollect(t, b, 1)
	wantThere(t, a, weaks, 0)
	wantThere(t, b, otherWeaks)
}
