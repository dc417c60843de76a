package trove_test

import (
	"slices"
	"testing"

	"trove/api"
	"trove/trove"
)

// P11: nothing has ended until a collection was made; then it is told once.
func TestEndedTellsOnce(t *testing.T) {
	h := newHeap(t, config(10, 3, 1, 1, pair))
	wantEnded(t, h)
	externs(t, h, 30, 0, 10)
	wantEnded(t, h)
	mustFree(t, h, 257, 261)
	wantEnded(t, h)
	wantCollect(t, h, 2)
	wantEnded(t, h, 30, 0)
	wantEnded(t, h)
	wantCollect(t, h, 0)
	wantEnded(t, h)
	mustFree(t, h, 265)
	wantCollect(t, h, 1)
	wantEnded(t, h, 10)
	wantEnded(t, h)
}

// P11: only what Extern made is told; Collect counts the others, too.
func TestEndedTellsExternsAlone(t *testing.T) {
	h := newHeap(t, config(20, 5, 1, 1, pair, nil))
	wantMake(t, h, 0, 257)
	wantMake(t, h, 1, 261)
	wantArray(t, h, api.Number, 0, 265)
	wantArray(t, h, api.Reference, 3, 269)
	mustFree(t, h, 257, 261, 265, 269)
	wantCollect(t, h, 4)
	wantEnded(t, h)
	wantMake(t, h, 0, 513)
	wantExtern(t, h, 0, 517)
	wantArray(t, h, api.Number, 1, 521)
	mustFree(t, h, 513, 517, 521)
	wantCollect(t, h, 3)
	wantEnded(t, h, 0)
}

// P11: in one collection by the objects' numbers: not by names, nor by slots, nor as they were freed.
func TestEndedGoesByNumbers(t *testing.T) {
	h := newHeap(t, config(20, 4, 1, 1, pair))
	externs(t, h, 50, 40, 60)
	mustFree(t, h, 257)
	wantExtern(t, h, 10, 513)
	mustFree(t, h, 265)
	wantExtern(t, h, 70, 521)
	wantExtern(t, h, 40, 269)
	for _, handle := range []int{269, 513, 261, 521} {
		mustFree(t, h, handle)
	}
	wantCollect(t, h, 6)
	wantEnded(t, h, 50, 40, 60, 10, 70, 40)
}

// P11: collection by collection, also where a later one ends what was made earlier.
func TestEndedGoesCollectionByCollection(t *testing.T) {
	h := newHeap(t, config(20, 6, 1, 1, pair))
	externs(t, h, 1, 2, 3, 4, 5, 6)
	mustFree(t, h, 277, 269)
	wantCollect(t, h, 2)
	mustFree(t, h, 265)
	wantCollect(t, h, 1)
	wantCollect(t, h, 0)
	mustFree(t, h, 273, 257)
	wantCollect(t, h, 2)
	wantEnded(t, h, 4, 6, 3, 1, 5)
	mustFree(t, h, 261)
	wantCollect(t, h, 1)
	wantEnded(t, h, 2)
}

// P10, P11: what a reference still leads to has not ended; with the last way to it, it does.
func TestEndedWaitsForTheLastWay(t *testing.T) {
	h := newHeap(t, config(20, 4, 2, 2, []int{api.Reference, api.Reference}))
	wantExtern(t, h, 8, 257)
	wantExtern(t, h, 9, 261)
	wantMake(t, h, 0, 265)
	mustPoint(t, h, 265, 0, 257)
	mustPoint(t, h, 265, 1, 261)
	wantRef(t, h, api.Global, 257, 258)
	wantRef(t, h, api.Weak, 261, 259)
	mustFree(t, h, 257, 261)
	wantCollect(t, h, 0)
	wantEnded(t, h)
	mustFree(t, h, 265)
	wantRef(t, h, api.Local, 259, 513)
	wantCollect(t, h, 1)
	wantEnded(t, h)
	mustFree(t, h, 513, 258)
	wantCollect(t, h, 2)
	wantEnded(t, h, 8, 9)
}

// makers: the calls that collect when room is wanted.
var makers = map[string]func(h *trove.Heap) (int, error){
	"Make":   func(h *trove.Heap) (int, error) { return h.Make(0) },
	"Array":  func(h *trove.Heap) (int, error) { return h.Array(api.Number, 2) },
	"Extern": func(h *trove.Heap) (int, error) { return h.Extern(99) },
}

// P5, P10, P11: collections that were made since room was wanted count as well.
func TestEndedTellsOfCollectionsForRoom(t *testing.T) {
	for name, wants := range makers {
		t.Run(name, func(t *testing.T) {
			h := newHeap(t, config(4, 5, 1, 1, pair))
			externs(t, h, 14, 13, 12, 11)
			mustFree(t, h, 269)
			wantCollect(t, h, 1)
			wantExtern(t, h, 10, 525)
			mustFree(t, h, 525, 265, 257)
			wantEnded(t, h, 11)
			got, err := wants(h)
			wantNumber(t, name, got, err, 513)
			wantEnded(t, h, 14, 12, 10)
			wantEnded(t, h)
		})
	}
}

// P1, P5, P11: so do those behind which there still was no room. (An Extern has room wherever anything ended.)
func TestEndedTellsOfCollectionsInVain(t *testing.T) {
	for _, name := range []string{"Make", "Array"} {
		t.Run(name, func(t *testing.T) {
			h := newHeap(t, config(3, 4, 1, 1, pair))
			wantArray(t, h, api.Number, 1, 257)
			wantExtern(t, h, 7, 261)
			got, err := makers[name](h)
			wantRefused(t, name, got, err, api.ErrRoom, 0)
			wantEnded(t, h)
			mustFree(t, h, 261)
			got, err = makers[name](h)
			wantRefused(t, name, got, err, api.ErrRoom, 0)
			wantStats(t, h, [6]int{1, 2, 1, 0, 0, 1})
			wantEnded(t, h, 7)
		})
	}
}

// P11: names wait as long as nobody asks, over any number of collections, and as many as a collection ends.
func TestEndedKeepsAllNames(t *testing.T) {
	h := newHeap(t, config(api.MaxRoom, api.MaxSlots, 1, 1, pair))
	want := []int{}
	for i := range api.MaxSlots * api.MaxGeneration {
		handle, err := h.Extern(api.MaxValue - i)
		if err != nil {
			t.Fatalf("Extern %d: %v", i, err)
		}
		mustFree(t, h, handle)
		want = append(want, api.MaxValue-i)
	}
	wantNoExtern(t, h, 1, api.ErrTable)
	wantCollect(t, h, api.MaxRoom)
	wantEnded(t, h, want...)
	wantEnded(t, h)
}

// P1: a list that came out is the caller's, who may write into it and into its spare room.
func TestEndedIsTheCallers(t *testing.T) {
	h := newHeap(t, config(10, 4, 1, 1, pair))
	externs(t, h, 1, 2, 3, 4)
	mustFree(t, h, 257, 261, 265)
	wantCollect(t, h, 3)
	first := h.Ended()
	scribble(first)
	wantEnded(t, h)
	mustFree(t, h, 269)
	wantCollect(t, h, 1)
	scribble(first)
	second := h.Ended()
	scribble(first)
	if !slices.Equal(second, []int{4}) {
		t.Errorf("Ended() = %v, want [4]: the list before it was written into", second)
	}
	scribble(h.Ended())
	wantEnded(t, h)
	wantStats(t, h, [6]int{0, 0, 0, 0, 0, 1})
}

// scribble writes into a list and into all its spare room.
func scribble(list []int) {
	list = list[:cap(list)]
	for i := range list {
		list[i] = -5
	}
}

// P1: what has ended in one heap is not told by another.
func TestEndedOfHeapsIsApart(t *testing.T) {
	a := newHeap(t, config(10, 2, 1, 1, pair))
	b := newHeap(t, config(10, 2, 1, 1, pair))
	externs(t, a, 1, 2)
	externs(t, b, 3, 4)
	mustFree(t, a, 257)
	mustFree(t, b, 261)
	wantCollect(t, a, 1)
	wantEnded(t, b)
	wantCollect(t, b, 1)
	wantEnded(t, a, 1)
	wantEnded(t, b, 4)
}

// P1: a call that is refused tells nothing and loses nothing of what is to be told.
func TestRefusalsLeaveNames(t *testing.T) {
	h := newHeap(t, config(3, 2, 1, 1, pair))
	externs(t, h, 5, 6)
	mustFree(t, h, 257)
	wantCollect(t, h, 1)
	wantNoExtern(t, h, -1, api.ErrArg)
	got, err := h.Make(1)
	wantRefused(t, "Make", got, err, api.ErrArg, 0)
	got, err = h.Make(0)
	wantRefused(t, "Make", got, err, api.ErrRoom, 0)
	wantBadHandle(t, h, 257, api.ErrStale)
	wantEnded(t, h, 5)
}
