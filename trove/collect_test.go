package trove_test

import (
	"testing"

	"trove/api"
	"trove/trove"
)

// family: so many objects of a number, their own, and two references; each has a local handle and a weak one.
func family(t *testing.T, n int) (h *trove.Heap, locals, weaks []int) {
	t.Helper()
	h = newHeap(t, config(api.MaxRoom, api.MaxSlots, api.MaxSlots, api.MaxSlots, []int{api.Number, api.Reference, api.Reference}))
	for i := range n {
		wantMake(t, h, 0, 257+4*i)
		wantRef(t, h, api.Weak, 257+4*i, 259+4*i)
		mustSet(t, h, 257+4*i, 0, 100+i)
		locals, weaks = append(locals, 257+4*i), append(weaks, 259+4*i)
	}
	return h, locals, weaks
}

// wantThere: of a family's objects just these have not ended; the others' weak handles are cleared.
func wantThere(t *testing.T, h *trove.Heap, weaks []int, there ...int) {
	t.Helper()
	left := map[int]int{}
	for _, i := range there {
		left[i] = 100 + i
	}
	for i, weak := range weaks {
		if v, ok := left[i]; ok {
			wantGet(t, h, weak, 0, v)
			continue
		}
		wantBadHandle(t, h, weak, api.ErrCleared)
	}
	if s := h.Stats(); s[0] != len(there) || s[1] != 4*len(there) || s[4] != len(weaks) {
		t.Errorf("Stats() = %v, want %d objects of 4 and %d weak handles", s, len(there), len(weaks))
	}
}

// P10: local and global handles hold their objects; weak ones do not.
func TestCollectEndsWhatNoHandleHolds(t *testing.T) {
	h, locals, weaks := family(t, 4)
	wantCollect(t, h, 0)
	wantRef(t, h, api.Global, locals[2], 258)
	mustFree(t, h, locals[0], locals[2], locals[3])
	wantThere(t, h, weaks, 0, 1, 2, 3)
	wantCollect(t, h, 2)
	wantThere(t, h, weaks, 1, 2)
	wantCollect(t, h, 0)
	mustFree(t, h, 258)
	wantCollect(t, h, 1)
	wantThere(t, h, weaks, 1)
	mustFree(t, h, locals[1])
	wantCollect(t, h, 1)
	wantThere(t, h, weaks)
	wantStats(t, h, [6]int{0, 0, 0, 0, 4, 1})
}

// P10: one handle of several is enough.
func TestCollectKeepsWhatHasOneHandleLeft(t *testing.T) {
	h, locals, weaks := family(t, 1)
	wantRef(t, h, api.Local, locals[0], 261)
	wantRef(t, h, api.Global, locals[0], 258)
	for _, handle := range []int{257, 261, 258} {
		wantCollect(t, h, 0)
		wantThere(t, h, weaks, 0)
		mustFree(t, h, handle)
	}
	wantCollect(t, h, 1)
	wantThere(t, h, weaks)
}

// P10, P12: references hold what they lead to, over any number of objects, by every reference, as it was left.
func TestCollectFollowsReferences(t *testing.T) {
	h, locals, weaks := family(t, 7)
	for _, k := range [][3]int{{0, 1, 1}, {1, 2, 2}, {2, 1, 3}, {0, 2, 4}, {5, 1, 0}, {6, 2, 3}} {
		mustPoint(t, h, locals[k[0]], k[1], locals[k[2]])
	}
	mustFree(t, h, locals[1:]...)
	wantCollect(t, h, 2)
	wantThere(t, h, weaks, 0, 1, 2, 3, 4)
	wantFollow(t, h, locals[0], 1, 517)
	wantFollow(t, h, 517, 2, 521)
	wantFollow(t, h, 521, 1, 525)
	wantGet(t, h, 525, 0, 103)
	wantFollow(t, h, 525, 1, 0)
	mustFree(t, h, 517, 525)
	mustPoint(t, h, locals[0], 1, 0)
	wantCollect(t, h, 1)
	wantThere(t, h, weaks, 0, 2, 3, 4)
	mustFree(t, h, 521, locals[0])
	wantCollect(t, h, 4)
	wantThere(t, h, weaks)
}

// P10: rings, and objects that refer to themselves, do not hold themselves; one way into a ring holds all of it.
func TestCollectEndsRings(t *testing.T) {
	h, locals, weaks := family(t, 6)
	for _, k := range [][3]int{{0, 1, 1}, {1, 1, 2}, {2, 2, 0}, {3, 1, 3}, {3, 2, 3}, {4, 1, 5}, {5, 1, 4}, {5, 2, 0}} {
		mustPoint(t, h, locals[k[0]], k[1], locals[k[2]])
	}
	mustFree(t, h, locals[0], locals[2], locals[3], locals[4])
	wantCollect(t, h, 1)
	wantThere(t, h, weaks, 0, 1, 2, 4, 5)
	mustFree(t, h, locals[1])
	wantCollect(t, h, 0)
	mustPoint(t, h, locals[5], 2, 0)
	wantCollect(t, h, 3)
	wantThere(t, h, weaks, 4, 5)
	mustFree(t, h, locals[5])
	wantCollect(t, h, 2)
	wantThere(t, h, weaks)
}

// P10: an array's references hold, the first and the last of them too.
func TestCollectFollowsArrays(t *testing.T) {
	h := newHeap(t, config(api.MaxRoom, 3, 1, 2, []int{api.Number}))
	wantArray(t, h, api.Reference, api.MaxElements, 257)
	wantMake(t, h, 0, 261)
	mustPoint(t, h, 257, 0, 261)
	wantMake(t, h, 0, 265)
	mustPoint(t, h, 257, api.MaxElements-1, 265)
	mustFree(t, h, 261, 265)
	wantCollect(t, h, 0)
	mustPoint(t, h, 257, 0, 0)
	wantCollect(t, h, 1)
	mustPoint(t, h, 257, api.MaxElements-1, 0)
	wantCollect(t, h, 1)
	wantStats(t, h, [6]int{1, 33, 1, 0, 0, 1})
}

// P10: a number that happens to be an object's is no reference.
func TestCollectDoesNotFollowNumbers(t *testing.T) {
	h := newHeap(t, config(api.MaxRoom, 3, 1, 2, []int{api.Number}))
	wantMake(t, h, 0, 257)
	wantArray(t, h, api.Number, 6, 261)
	for i := range 4 {
		mustSet(t, h, 261, i, i)
	}
	mustSet(t, h, 261, 4, 257)
	mustFree(t, h, 257)
	wantCollect(t, h, 1)
	wantGet(t, h, 261, 4, 257)
}

// P10: what nobody comes to is there until a collection, and can be come to again over a weak handle.
func TestAWeakHandleBringsBackWhatIsThere(t *testing.T) {
	h, locals, weaks := family(t, 2)
	mustPoint(t, h, locals[0], 1, locals[1])
	mustFree(t, h, locals...)
	wantRef(t, h, api.Global, weaks[0], 258)
	wantCollect(t, h, 0)
	wantThere(t, h, weaks, 0, 1)
	mustFree(t, h, 258)
	wantFollow(t, h, weaks[0], 1, 513)
	wantCollect(t, h, 1)
	wantThere(t, h, weaks, 1)
}

// P12: a chain as long as the room allows stays whole behind one handle.
func TestALongChain(t *testing.T) {
	h := newHeap(t, config(api.MaxRoom, 4, 1, 1, []int{api.Reference}))
	n := api.MaxRoom / 2
	head, err := h.Make(0)
	for range n - 1 {
		before := head
		head, err = h.Make(0)
		if err != nil {
			t.Fatalf("Make: %v", err)
		}
		mustPoint(t, h, head, 0, before)
		mustFree(t, h, before)
	}
	wantCollect(t, h, 0)
	got, err := h.Make(0)
	wantRefused(t, "Make without room", got, err, api.ErrRoom, 0)
	wantStats(t, h, [6]int{n, 2 * n, 1, 0, 0, 1})
	mustPoint(t, h, head, 0, 0)
	wantCollect(t, h, n-1)
}

// P13: behind a Collect another one ends nothing; without handles the heap is empty.
func TestCollectTwice(t *testing.T) {
	h, locals, weaks := family(t, 8)
	for i := range locals {
		mustPoint(t, h, locals[i], 1, locals[(i*3+1)%8])
		mustPoint(t, h, locals[i], 2, locals[i/2])
	}
	wantRef(t, h, api.Global, locals[6], 258)
	for _, handle := range append(locals, 258) {
		mustFree(t, h, handle)
		h.Collect()
		wantCollect(t, h, 0)
	}
	wantThere(t, h, weaks)
	wantStats(t, h, [6]int{0, 0, 0, 0, 8, 1})
	wantCollect(t, newHeap(t, config(1, 1, 1, 1, nil)), 0)
}

// P5: a collection is made when room is wanted, and not before.
func TestMakeCollectsWhenRoomIsWanted(t *testing.T) {
	h := newHeap(t, config(9, 4, 1, 4, pair))
	wantMake(t, h, 0, 257)
	wantRef(t, h, api.Weak, 257, 259)
	wantMake(t, h, 0, 261)
	mustFree(t, h, 257)
	wantMake(t, h, 0, 513)
	wantGet(t, h, 259, 0, 0)
	wantStats(t, h, [6]int{3, 9, 2, 0, 1, 1})
	wantMake(t, h, 0, 265)
	wantBadHandle(t, h, 259, api.ErrCleared)
	wantStats(t, h, [6]int{3, 9, 3, 0, 1, 1})
	mustFree(t, h, 261, 513)
	wantArray(t, h, api.Number, 5, 769)
	wantStats(t, h, [6]int{2, 9, 2, 0, 1, 1})
}

// P5: without room in the end the collection was made all the same, even for what could never be.
func TestARefusedMakeHasCollected(t *testing.T) {
	for name, refused := range map[string]func(h *trove.Heap) (int, error){
		"Make":                        func(h *trove.Heap) (int, error) { return h.Make(1) },
		"Array":                       func(h *trove.Heap) (int, error) { return h.Array(api.Number, 7) },
		"Array bigger than the room":  func(h *trove.Heap) (int, error) { return h.Array(api.Reference, api.MaxElements) },
		"Array as big as all of room": func(h *trove.Heap) (int, error) { return h.Array(api.Number, 9) },
	} {
		t.Run(name, func(t *testing.T) {
			h := newHeap(t, config(10, 3, 1, 2, pair, []int{1, 1, 1, 1, 1, 1, 1}))
			wantMake(t, h, 0, 257)
			wantMake(t, h, 0, 261)
			mustSet(t, h, 261, 0, 4)
			wantRef(t, h, api.Weak, 257, 259)
			mustFree(t, h, 257)
			got, err := refused(h)
			wantRefused(t, name, got, err, api.ErrRoom, 0)
			wantStats(t, h, [6]int{1, 3, 1, 0, 1, 1})
			wantBadHandle(t, h, 259, api.ErrCleared)
			wantGet(t, h, 261, 0, 4)
			wantMake(t, h, 0, 513)
		})
	}
}

// P5: refused for another reason there is no collection.
func TestNoCollectionWithoutClassOrSlot(t *testing.T) {
	h := newHeap(t, config(6, 1, 1, 1, pair))
	wantMake(t, h, 0, 257)
	mustFree(t, h, 257)
	wantMake(t, h, 0, 513)
	want := [6]int{2, 6, 1, 0, 0, 1}
	got, err := h.Make(1)
	wantRefused(t, "Make of no class", got, err, api.ErrArg, 0)
	got, err = h.Array(3, 1)
	wantRefused(t, "Array of no kind", got, err, api.ErrArg, 0)
	got, err = h.Array(api.Number, api.MaxElements+1)
	wantRefused(t, "Array of too many", got, err, api.ErrArg, 0)
	wantStats(t, h, want)
	got, err = h.Make(0)
	wantRefused(t, "Make without a slot", got, err, api.ErrTable, 0)
	got, err = h.Array(api.Number, 5)
	wantRefused(t, "Array without a slot", got, err, api.ErrTable, 0)
	wantStats(t, h, want)
	mustFree(t, h, 513)
	wantMake(t, h, 0, 769)
	wantStats(t, h, [6]int{1, 3, 1, 0, 0, 1})
}

// P5: the collection keeps all that somebody comes to, and the room that it makes is used to the last.
func TestMakeKeepsWhatIsReached(t *testing.T) {
	h := newHeap(t, config(12, 4, 1, 1, pair))
	wantMake(t, h, 0, 257)
	wantMake(t, h, 0, 261)
	wantMake(t, h, 0, 265)
	mustSet(t, h, 261, 0, 6)
	mustPoint(t, h, 257, 1, 261)
	mustFree(t, h, 261, 265)
	wantArray(t, h, api.Number, 5, 517)
	wantStats(t, h, [6]int{3, 12, 2, 0, 0, 1})
	wantFollow(t, h, 257, 1, 521)
	wantGet(t, h, 521, 0, 6)
	got, err := h.Array(api.Number, 0)
	wantRefused(t, "Array without room", got, err, api.ErrRoom, 0)
}

// P1: collections of one heap leave the other.
func TestCollectionsAreApart(t *testing.T) {
	a, locals, _ := family(t, 2)
	b, others, weaks := family(t, 2)
	mustPoint(t, b, others[0], 1, others[1])
	mustFree(t, a, locals...)
	mustFree(t, b, others[1])
	wantCollect(t, a, 2)
	wantThere(t, b, weaks, 0, 1)
	wantCollect(t, b, 0)
	wantStats(t, a, [6]int{0, 0, 0, 0, 2, 1})
}
