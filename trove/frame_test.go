package trove_test

import (
	"math"
	"testing"

	"trove/api"
	"trove/trove"
)

// local: the local handle of a slot and its generation.
func local(slot, generation int) int { return api.Local + 4*slot + 256*generation }

// P8, P11: there is one frame at first; Push gives up to MaxFrames, and Pop ends all but one.
func TestFramesAreCounted(t *testing.T) {
	h := newHeap(t, config(10, 3, 1, 1, pair))
	wantMake(t, h, 0, 257)
	for range 2 {
		for frames := 2; frames <= api.MaxFrames; frames++ {
			mustPush(t, h)
			wantStats(t, h, [6]int{1, 3, 1, 0, 0, frames})
		}
		for range 2 {
			wantFault(t, "Push behind MaxFrames", h.Push(), api.ErrFrame, 0)
			wantStats(t, h, [6]int{1, 3, 1, 0, 0, api.MaxFrames})
		}
		for frames := api.MaxFrames - 1; frames >= 1; frames-- {
			wantPop(t, h, 0, 0)
			wantStats(t, h, [6]int{1, 3, 1, 0, 0, frames})
		}
		for range 2 {
			wantNoPop(t, h, 0, api.ErrFrame, 0)
			wantStats(t, h, [6]int{1, 3, 1, 0, 0, 1})
		}
	}
	wantGet(t, h, 257, 0, 0)
}

// P8: a Push that is refused leaves the last frame the last one.
func TestARefusedPushLeavesTheFrames(t *testing.T) {
	h := newHeap(t, config(10, 3, 1, 1, pair))
	for range api.MaxFrames - 1 {
		mustPush(t, h)
	}
	wantMake(t, h, 0, 257)
	wantFault(t, "Push", h.Push(), api.ErrFrame, 0)
	wantGet(t, h, 257, 0, 0)
	wantMake(t, h, 0, 261)
	wantPop(t, h, 0, 0)
	wantStats(t, h, [6]int{2, 6, 0, 0, 0, api.MaxFrames - 1})
}

// P1, P8: of one frame alone ErrFrame is told, whatever the handle is; else the handle's reason ahead of the slot's.
func TestPopTellsTheFirstReason(t *testing.T) {
	h := newHeap(t, config(10, 2, 1, 2, pair))
	wantMake(t, h, 0, 257)
	wantRef(t, h, api.Weak, 257, 259)
	mustFree(t, h, 257)
	wantCollect(t, h, 1)
	wantMake(t, h, 0, 513)
	wantMake(t, h, 0, 261)
	bad := map[int]error{259: api.ErrCleared, 257: api.ErrStale, 265: api.ErrForged, 4: api.ErrForged, -1: api.ErrForged, math.MinInt: api.ErrForged, math.MaxInt: api.ErrForged}
	for handle := range bad {
		wantNoPop(t, h, handle, api.ErrFrame, 0)
	}
	wantNoPop(t, h, 0, api.ErrFrame, 0)
	wantNoPop(t, h, 513, api.ErrFrame, 0)
	wantStats(t, h, [6]int{2, 6, 2, 0, 1, 1})
	mustPush(t, h)
	for handle, reason := range bad {
		wantNoPop(t, h, handle, reason, handle)
	}
	wantNoPop(t, h, 513, api.ErrTable, 0)
	wantStats(t, h, [6]int{2, 6, 2, 0, 1, 2})
	wantPop(t, h, 0, 0)
}

// P4, P8: the last frame's local handles are freed, wherever their slots are; those of other frames are not, nor are handles of other kinds.
func TestPopFreesTheLastFrame(t *testing.T) {
	h := newHeap(t, config(30, 6, 3, 3, pair))
	wantMake(t, h, 0, local(0, 1))
	wantMake(t, h, 0, local(1, 1))
	wantMake(t, h, 0, local(2, 1))
	mustPush(t, h)
	mustFree(t, h, local(1, 1))
	wantMake(t, h, 0, local(1, 2)) // a slot of the first frame, taken again in the second
	wantMake(t, h, 0, local(3, 1))
	wantRef(t, h, api.Global, local(3, 1), 258)
	wantRef(t, h, api.Weak, local(1, 2), 259)
	mustPush(t, h)
	mustFree(t, h, local(0, 1))
	wantMake(t, h, 0, local(0, 2))
	wantMake(t, h, 0, local(4, 1))
	wantRef(t, h, api.Global, local(4, 1), 262)
	wantStats(t, h, [6]int{7, 21, 5, 2, 1, 3})
	wantPop(t, h, 0, 0)
	wantStale(t, h, local(0, 2), local(4, 1))
	wantGood(t, h, local(1, 2), local(2, 1), local(3, 1), 258, 259, 262)
	wantStats(t, h, [6]int{7, 21, 3, 2, 1, 2})
	wantPop(t, h, 0, 0)
	wantStale(t, h, local(1, 2), local(3, 1))
	wantGood(t, h, local(2, 1), 258, 259, 262)
	wantStats(t, h, [6]int{7, 21, 1, 2, 1, 1})
	wantCollect(t, h, 4)
	wantGood(t, h, local(2, 1), 258, 262)
	wantBadHandle(t, h, 259, api.ErrCleared)
}

func wantStale(t *testing.T, h *trove.Heap, handles ...int) {
	t.Helper()
	for _, handle := range handles {
		wantBadHandle(t, h, handle, api.ErrStale)
	}
}

func wantGood(t *testing.T, h *trove.Heap, handles ...int) {
	t.Helper()
	for _, handle := range handles {
		wantSame(t, h, handle, handle, true)
	}
}

// P4: whichever call takes a local handle, it belongs to the frame that is the last one then, not to its object's or to the frame of the handle that it came from.
func TestEveryCallTakesForTheLastFrame(t *testing.T) {
	for name, takes := range map[string]func(h *trove.Heap) (int, error){
		"Make":   func(h *trove.Heap) (int, error) { return h.Make(0) },
		"Array":  func(h *trove.Heap) (int, error) { return h.Array(api.Number, 1) },
		"Extern": func(h *trove.Heap) (int, error) { return h.Extern(1) },
		"Follow": func(h *trove.Heap) (int, error) { return h.Follow(257, 1) },
		"Ref":    func(h *trove.Heap) (int, error) { return h.Ref(api.Local, 257) },
	} {
		t.Run(name, func(t *testing.T) {
			h := newHeap(t, config(20, 4, 1, 1, pair))
			wantMake(t, h, 0, 257)
			mustPoint(t, h, 257, 1, 257)
			mustPush(t, h)
			got, err := takes(h)
			wantNumber(t, name, got, err, local(1, 1))
			mustPush(t, h)
			got, err = takes(h)
			wantNumber(t, name, got, err, local(2, 1))
			wantPop(t, h, 0, 0)
			wantStale(t, h, local(2, 1))
			wantGood(t, h, local(1, 1), 257)
			got, err = takes(h)
			wantNumber(t, name, got, err, local(2, 2))
			wantPop(t, h, 0, 0)
			wantStale(t, h, local(1, 1), local(2, 2))
			wantGood(t, h, 257)
			wantNoPop(t, h, 257, api.ErrFrame, 0)
		})
	}
}

// P4, P8: a frame that begins later has none of the handles of one that ended, and the other way round.
func TestFramesBeginBlank(t *testing.T) {
	h := newHeap(t, config(20, 4, 1, 1, pair))
	mustPush(t, h)
	wantMake(t, h, 0, local(0, 1))
	wantPop(t, h, 0, 0)
	wantMake(t, h, 0, local(0, 2)) // of the first frame, in a slot that the second one had
	mustPush(t, h)
	wantMake(t, h, 0, local(1, 1))
	wantPop(t, h, 0, 0)
	wantGood(t, h, local(0, 2))
	wantStale(t, h, local(0, 1), local(1, 1))
	mustPush(t, h)
	wantPop(t, h, 0, 0)
	wantGood(t, h, local(0, 2))
	wantStats(t, h, [6]int{3, 9, 1, 0, 0, 1})
}

// P8: handles of other frames can be freed and used as before; Free is of any frame.
func TestHandlesOfOtherFramesAreGood(t *testing.T) {
	h := newHeap(t, config(20, 4, 1, 1, pair))
	wantMake(t, h, 0, 257)
	mustPush(t, h)
	wantMake(t, h, 0, 261)
	mustSet(t, h, 257, 0, 8)
	mustPoint(t, h, 257, 1, 261)
	mustPush(t, h)
	mustFree(t, h, 261)
	wantGet(t, h, 257, 0, 8)
	wantPop(t, h, 0, 0)
	wantPop(t, h, 0, 0)
	wantFollow(t, h, 257, 1, 517)
	wantCollect(t, h, 0)
}

// threeFrames: the first has slot 0, the second slot 2, the last one the slots 1 and 3; of the last one's objects one has a global handle, the other a weak one.
func threeFrames(t *testing.T) *trove.Heap {
	t.Helper()
	h := newHeap(t, config(30, 5, 1, 2, pair))
	wantMake(t, h, 0, local(0, 1))
	wantRef(t, h, api.Local, local(0, 1), local(1, 1))
	mustPush(t, h)
	wantMake(t, h, 0, local(2, 1))
	mustFree(t, h, local(1, 1))
	mustPush(t, h)
	wantMake(t, h, 0, local(1, 2))
	wantMake(t, h, 0, local(3, 1))
	wantRef(t, h, api.Global, local(1, 2), 258)
	wantRef(t, h, api.Weak, local(3, 1), 259)
	return h
}

// P4, P8: what comes out is of the object that the handle was of, whatever kind and frame that was of; it is in the least slot that is free then, and belongs to the frame that is left.
func TestPopBringsOneObjectOut(t *testing.T) {
	for name, handle := range map[string]int{
		"of the last frame":              local(3, 1),
		"of the slot that is taken":      local(1, 2),
		"of the frame before":            local(2, 1),
		"of the first frame":             local(0, 1),
		"global":                         258,
		"weak, of what nobody else held": 259,
	} {
		t.Run(name, func(t *testing.T) {
			h := threeFrames(t)
			out := local(1, 3)
			mustSet(t, h, handle, 0, 9)
			wantRef(t, h, api.Weak, handle, 263)
			wantPop(t, h, handle, out)
			wantSame(t, h, out, 263, true)
			wantGet(t, h, out, 0, 9)
			wantStale(t, h, local(1, 2), local(3, 1))
			wantGood(t, h, local(0, 1), local(2, 1), 258, 259)
			wantStats(t, h, [6]int{4, 12, 3, 1, 2, 2})
			h.Collect()
			wantGet(t, h, out, 0, 9)
			wantPop(t, h, 0, 0)
			wantStale(t, h, out, local(2, 1))
			wantGood(t, h, local(0, 1))
		})
	}
}

// P8: with 0 nothing comes out, and no slot is taken.
func TestPopOfNothing(t *testing.T) {
	h := threeFrames(t)
	wantPop(t, h, 0, 0)
	wantStats(t, h, [6]int{4, 12, 2, 1, 1, 2})
	wantMake(t, h, 0, local(1, 3))
	wantMake(t, h, 0, local(3, 2))
}

// P8: what comes out of one frame after the other is the same object, down to the first.
func TestAnObjectComesOutOfEveryFrame(t *testing.T) {
	h := newHeap(t, config(10, 1, 1, 1, pair))
	for range api.MaxFrames - 1 {
		mustPush(t, h)
	}
	wantMake(t, h, 0, local(0, 1))
	mustSet(t, h, local(0, 1), 0, 6)
	for generation := 2; generation <= api.MaxFrames; generation++ {
		wantPop(t, h, local(0, generation-1), local(0, generation))
		wantCollect(t, h, 0)
		wantGet(t, h, local(0, generation), 0, 6)
		wantStats(t, h, [6]int{1, 3, 1, 0, 0, api.MaxFrames + 1 - generation})
	}
	wantNoPop(t, h, local(0, api.MaxFrames), api.ErrFrame, 0)
	wantGood(t, h, local(0, api.MaxFrames))
}

// P8: the slot is looked for when the frame's slots are free: a full table is no reason, if one of them can be taken.
func TestPopTakesASlotOfTheFrame(t *testing.T) {
	h := newHeap(t, config(20, 3, 1, 1, pair))
	wantMake(t, h, 0, local(0, 1))
	wantMake(t, h, 0, local(1, 1))
	mustPush(t, h)
	wantMake(t, h, 0, local(2, 1))
	got, err := h.Make(0)
	wantRefused(t, "Make", got, err, api.ErrTable, 0)
	wantPop(t, h, local(0, 1), local(2, 2))
	wantSame(t, h, local(0, 1), local(2, 2), true)
	wantStats(t, h, [6]int{3, 9, 3, 0, 0, 1})
}

// P1, P8: other frames have all slots: nothing comes out, and nothing is changed; without an object the frame ends.
func TestPopWithAFullTable(t *testing.T) {
	h := newHeap(t, config(20, 2, 1, 1, pair))
	wantMake(t, h, 0, local(0, 1))
	mustPush(t, h)
	wantMake(t, h, 0, local(1, 1))
	wantRef(t, h, api.Global, local(1, 1), 258)
	wantRef(t, h, api.Weak, local(1, 1), 259)
	mustPush(t, h)
	for _, handle := range []int{local(0, 1), local(1, 1), 258, 259} {
		wantNoPop(t, h, handle, api.ErrTable, 0)
		wantStats(t, h, [6]int{2, 6, 2, 1, 1, 3})
		wantGood(t, h, local(0, 1), local(1, 1), 258, 259)
	}
	wantPop(t, h, 0, 0)
	wantStats(t, h, [6]int{2, 6, 2, 1, 1, 2})
	wantPop(t, h, 258, local(1, 2))
}

// usedUp: a heap of two frames with three slots: the first frame has slot 0; the last one has the slots 1 and 2, of which so many are of the last generation.
func usedUp(t *testing.T, slots int) *trove.Heap {
	t.Helper()
	h := newHeap(t, config(20, 3, 1, 1, pair))
	wantMake(t, h, 0, local(0, 1))
	mustPush(t, h)
	for i := range slots {
		for generation := 1; generation < api.MaxGeneration; generation++ {
			wantRef(t, h, api.Local, 257, local(1+i, generation))
			mustFree(t, h, local(1+i, generation))
		}
		wantMake(t, h, 0, local(1+i, api.MaxGeneration))
	}
	for slot := 1 + slots; slot < 3; slot++ {
		wantMake(t, h, 0, local(slot, 1))
	}
	return h
}

// P1, P8: the frame's slots cannot be taken any more, as their generations are used up: nothing is changed, not even the frame's handles, and so again.
func TestPopBehindTheLastGeneration(t *testing.T) {
	h := usedUp(t, 2)
	first, second := local(1, api.MaxGeneration), local(2, api.MaxGeneration)
	mustSet(t, h, first, 0, 5)
	mustSet(t, h, second, 0, 6)
	wantRef(t, h, api.Global, first, 258)
	for _, handle := range []int{first, second, 257, 258, first} {
		wantNoPop(t, h, handle, api.ErrTable, 0)
		wantStats(t, h, [6]int{3, 9, 3, 1, 0, 2})
	}
	wantCollect(t, h, 0)
	wantGet(t, h, first, 0, 5)
	wantGet(t, h, second, 0, 6)
	wantGood(t, h, 257, 258)
	wantPop(t, h, 0, 0)
	wantStale(t, h, first, second)
	wantStats(t, h, [6]int{3, 9, 1, 1, 0, 1})
	wantNoRef(t, h, api.Local, 258, api.ErrTable, 0)
	mustFree(t, h, 257)
	wantRef(t, h, api.Local, 258, local(0, 2))
}

// P8: the frame's slots cannot be taken, but one outside of it is free.
func TestPopTakesASlotOutsideOfTheFrame(t *testing.T) {
	h := usedUp(t, 2)
	first := local(1, api.MaxGeneration)
	mustSet(t, h, first, 0, 5)
	wantNoPop(t, h, first, api.ErrTable, 0)
	mustFree(t, h, 257)
	wantPop(t, h, first, local(0, 2))
	wantGet(t, h, local(0, 2), 0, 5)
	wantStale(t, h, 257, first, local(2, api.MaxGeneration))
	wantStats(t, h, [6]int{3, 9, 1, 0, 0, 1})
}

// P8: a slot of the last generation is passed over for a greater one of the frame.
func TestPopPassesOverAUsedUpSlot(t *testing.T) {
	h := usedUp(t, 1)
	first := local(1, api.MaxGeneration)
	mustSet(t, h, first, 0, 5)
	wantPop(t, h, first, local(2, 2))
	wantGet(t, h, local(2, 2), 0, 5)
	wantStale(t, h, first, local(2, 1))
	wantStats(t, h, [6]int{3, 9, 2, 0, 0, 1})
}

// P8, P12: no handle comes out twice, and the last generation comes out, too.
func TestEveryGenerationComesOut(t *testing.T) {
	h := newHeap(t, config(10, 1, 1, 1, pair))
	last := local(0, api.MaxGeneration)
	for generation := 2; generation <= api.MaxGeneration; generation += 2 {
		mustPush(t, h)
		wantMake(t, h, 0, local(0, generation-1))
		wantPop(t, h, local(0, generation-1), local(0, generation))
		wantStale(t, h, local(0, generation-1))
		if generation < api.MaxGeneration {
			mustFree(t, h, local(0, generation))
		}
	}
	wantGet(t, h, last, 0, 0)
	mustPush(t, h)
	wantNoPop(t, h, last, api.ErrTable, 0)
	wantGood(t, h, last)
	for generation := 1; generation < api.MaxGeneration; generation++ {
		wantStale(t, h, local(0, generation))
	}
}

// P8, P10: a frame's end is no collection; the next one ends what the frame alone had held.
func TestPopIsNoCollection(t *testing.T) {
	h := newHeap(t, config(20, 4, 1, 2, pair))
	wantMake(t, h, 0, 257)
	wantRef(t, h, api.Weak, 257, 259)
	mustPush(t, h)
	wantExtern(t, h, 30, 261)
	wantMake(t, h, 0, 265)
	mustSet(t, h, 265, 0, 7)
	wantRef(t, h, api.Weak, 265, 263)
	wantPop(t, h, 0, 0)
	wantStats(t, h, [6]int{3, 7, 1, 0, 2, 1})
	wantGet(t, h, 263, 0, 7)
	wantEnded(t, h)
	wantCollect(t, h, 2)
	wantBadHandle(t, h, 263, api.ErrCleared)
	wantGood(t, h, 257, 259)
	wantEnded(t, h, 30)
}

// P5, P8: so does one that is made when room is wanted.
func TestRoomOfAFrameIsUsedAgain(t *testing.T) {
	for name, wants := range makers {
		t.Run(name, func(t *testing.T) {
			h := newHeap(t, config(3, 4, 1, 1, pair))
			mustPush(t, h)
			externs(t, h, 1, 2, 3)
			got, err := wants(h)
			wantRefused(t, name, got, err, api.ErrRoom, 0)
			wantPop(t, h, 0, 0)
			wantEnded(t, h)
			got, err = wants(h)
			wantNumber(t, name, got, err, local(0, 2))
			wantEnded(t, h, 1, 2, 3)
		})
	}
}

// P10, P12: local handles of every frame hold their objects, not those of the last one alone.
func TestEveryFrameHolds(t *testing.T) {
	h := newHeap(t, config(api.MaxRoom, api.MaxSlots, 1, 1, pair))
	for i := range api.MaxFrames {
		if i > 0 {
			mustPush(t, h)
		}
		wantMake(t, h, 0, local(2*i, 1))
		wantMake(t, h, 0, local(2*i+1, 1))
		mustSet(t, h, local(2*i, 1), 0, i)
		wantCollect(t, h, 0)
	}
	for i := api.MaxFrames - 1; i > 0; i-- {
		for k := range i + 1 {
			wantGet(t, h, local(2*k, 1), 0, k)
		}
		wantPop(t, h, 0, 0)
		wantStale(t, h, local(2*i, 1), local(2*i+1, 1))
		wantCollect(t, h, 2)
	}
	wantGet(t, h, local(0, 1), 0, 0)
	wantStats(t, h, [6]int{2, 6, 2, 0, 0, 1})
}

// P12: what comes out holds all to which its references lead, as it was left in the frame.
func TestWhatComesOutHoldsWhereItLeads(t *testing.T) {
	h := newHeap(t, config(50, 8, 1, 1, pair))
	mustPush(t, h)
	for i := range 6 {
		wantMake(t, h, 0, local(i, 1))
		mustSet(t, h, local(i, 1), 0, 100+i)
	}
	mustPoint(t, h, local(5, 1), 1, local(3, 1))
	mustPoint(t, h, local(3, 1), 1, local(0, 1))
	mustPoint(t, h, local(4, 1), 1, local(5, 1))
	wantPop(t, h, local(5, 1), local(0, 2))
	wantCollect(t, h, 3)
	wantGet(t, h, local(0, 2), 0, 105)
	wantFollow(t, h, local(0, 2), 1, local(1, 2))
	wantGet(t, h, local(1, 2), 0, 103)
	wantFollow(t, h, local(1, 2), 1, local(2, 2))
	wantGet(t, h, local(2, 2), 0, 100)
	wantFollow(t, h, local(2, 2), 1, 0)
	wantStats(t, h, [6]int{3, 9, 3, 0, 0, 1})
}

// P13: with frames, too, a heap without local and global handles is empty behind a Collect; the frames are left.
func TestAHeapOfFramesIsEmptyBehindACollect(t *testing.T) {
	h := threeFrames(t)
	wantCollect(t, h, 0)
	mustFree(t, h, local(0, 1), local(1, 2), local(2, 1), local(3, 1), 258)
	wantCollect(t, h, 4)
	wantCollect(t, h, 0)
	wantStats(t, h, [6]int{0, 0, 0, 0, 1, 3})
	h = threeFrames(t)
	wantPop(t, h, 0, 0)
	wantPop(t, h, 0, 0)
	mustFree(t, h, 258, local(0, 1))
	wantCollect(t, h, 4)
	wantCollect(t, h, 0)
	wantStats(t, h, [6]int{0, 0, 0, 0, 1, 1})
}

// P1: frames of one heap are not another's.
func TestFramesOfHeapsAreApart(t *testing.T) {
	a, b := threeFrames(t), threeFrames(t)
	wantPop(t, a, 0, 0)
	wantStats(t, b, [6]int{4, 12, 4, 1, 1, 3})
	mustPush(t, b)
	wantStats(t, a, [6]int{4, 12, 2, 1, 1, 2})
	wantGood(t, b, local(1, 2), local(3, 1))
}
