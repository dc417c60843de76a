package trove_test

import (
	"math"
	"testing"

	"trove/api"
	"trove/trove"
)

// P3: numbers far from any handle.
func TestHandlesFarOff(t *testing.T) {
	h := newHeap(t, config(10, 3, 2, 2, pair))
	wantMake(t, h, 0, 257)
	for _, handle := range []int{math.MinInt, math.MinInt + 1, -257, -256, math.MaxInt, math.MaxInt - 2, 1<<62 + 257, 1<<32 + 257, 1<<31 + 257, 1<<16 + 257} {
		wantBadHandle(t, h, handle, api.ErrForged)
	}
}

// P3: all handles that there can be, and many that there cannot, of tables of different sizes.
func TestEveryHandle(t *testing.T) {
	slots := map[int]int{api.Local: 5, api.Global: 3, api.Weak: 16}
	h := newHeap(t, config(100, slots[api.Local], slots[api.Global], slots[api.Weak], pair))
	good := map[int]int{257: 0, 261: 1, 265: 2}
	for i := range len(good) {
		wantMake(t, h, 0, 257+4*i)
		mustSet(t, h, 257+4*i, 0, 40+i)
	}
	for handle := -600; handle < 256*(api.MaxGeneration+14); handle++ {
		if i, ok := good[handle]; ok {
			wantGet(t, h, handle, 0, 40+i)
			continue
		}
		wantBadHandle(t, h, handle, reasonOf(handle, slots))
	}
	wantStats(t, h, [6]int{3, 9, 3, 0, 0, 1})
}

// reasonOf: why a handle that was not given out is refused. The handles that can be good are built up here, not taken apart as the program does.
func reasonOf(handle int, slots map[int]int) error {
	if handle == 0 {
		return api.ErrNull
	}
	for kind, n := range slots {
		for slot := range n {
			for generation := 1; generation <= api.MaxGeneration; generation++ {
				if handle == kind+4*slot+256*generation {
					return api.ErrStale
				}
			}
		}
	}
	return api.ErrForged
}

// P3, P11: handles of every kind are good, and are counted by their tables.
func TestHandlesOfEveryKind(t *testing.T) {
	h := newHeap(t, config(10, 3, 2, 2, pair))
	wantMake(t, h, 0, 257)
	wantRef(t, h, api.Global, 257, 258)
	wantRef(t, h, api.Weak, 258, 259)
	wantRef(t, h, api.Weak, 259, 263)
	wantRef(t, h, api.Local, 263, 261)
	all := []int{257, 258, 259, 263, 261}
	for i, handle := range all {
		mustSet(t, h, handle, 0, 10+i)
		for _, other := range all {
			wantGet(t, h, other, 0, 10+i)
			wantSame(t, h, handle, other, true)
		}
	}
	wantStats(t, h, [6]int{1, 3, 2, 1, 2, 1})
}

// P3, P10: a weak handle whose object has ended is told so by every call; a stale one of the same slot is stale.
func TestClearedHandles(t *testing.T) {
	h := newHeap(t, config(10, 3, 2, 3, pair))
	wantMake(t, h, 0, 257)
	wantRef(t, h, api.Weak, 257, 259)
	mustFree(t, h, 259)
	wantRef(t, h, api.Weak, 257, 515)
	wantRef(t, h, api.Weak, 257, 263)
	mustFree(t, h, 257)
	wantGet(t, h, 515, 0, 0)
	wantCollect(t, h, 1)
	wantBadHandle(t, h, 515, api.ErrCleared)
	wantBadHandle(t, h, 263, api.ErrCleared)
	wantBadHandle(t, h, 259, api.ErrStale)
	wantMake(t, h, 0, 513)
	wantFault(t, "Set: a cleared handle and a wrong value", h.Set(515, 9, api.MaxValue+1), api.ErrCleared, 515)
	wantFault(t, "Point: to a cleared handle", h.Point(513, 9, 263), api.ErrCleared, 263)
	wantNotSame(t, h, 513, 515, api.ErrCleared, 515)
	wantNotSame(t, h, 515, 263, api.ErrCleared, 515)
	wantRef(t, h, api.Weak, 513, 267)
	wantGet(t, h, 267, 0, 0)
	wantStats(t, h, [6]int{1, 3, 1, 0, 3, 1})
}

// P7: a cleared handle keeps its slot until it is freed.
func TestFreeOfAClearedHandle(t *testing.T) {
	h := newHeap(t, config(10, 3, 2, 1, pair))
	wantMake(t, h, 0, 257)
	wantRef(t, h, api.Weak, 257, 259)
	mustFree(t, h, 257)
	wantCollect(t, h, 1)
	wantMake(t, h, 0, 513)
	wantNoRef(t, h, api.Weak, 513, api.ErrTable, 0)
	mustFree(t, h, 259)
	wantBadHandle(t, h, 259, api.ErrStale)
	wantStats(t, h, [6]int{1, 3, 1, 0, 0, 1})
	wantRef(t, h, api.Weak, 513, 515)
}

// P7: Same of one object and of two, of all kinds of handles, and of nothing.
func TestSame(t *testing.T) {
	h := newHeap(t, config(10, 3, 2, 2, pair))
	wantMake(t, h, 0, 257)
	wantMake(t, h, 0, 261)
	wantRef(t, h, api.Global, 261, 258)
	wantRef(t, h, api.Weak, 257, 259)
	for _, k := range []struct {
		a, b int
		same bool
	}{{257, 257, true}, {257, 259, true}, {258, 261, true}, {257, 261, false}, {258, 259, false}, {0, 0, true}, {0, 257, false}, {0, 259, false}} {
		wantSame(t, h, k.a, k.b, k.same)
		wantSame(t, h, k.b, k.a, k.same)
	}
	wantStats(t, h, [6]int{2, 6, 2, 1, 1, 1})
}

// P1, P7: of two wrong handles the first is told.
func TestSameTellsTheFirstHandle(t *testing.T) {
	h := newHeap(t, config(10, 3, 2, 2, pair))
	wantMake(t, h, 0, 257)
	wantNotSame(t, h, 4, 513, api.ErrForged, 4)
	wantNotSame(t, h, 513, 4, api.ErrStale, 513)
	wantNotSame(t, h, 257, 513, api.ErrStale, 513)
	wantNotSame(t, h, 0, math.MinInt, api.ErrForged, math.MinInt)
	wantNotSame(t, h, math.MaxInt, 0, api.ErrForged, math.MaxInt)
}

// P7: Ref takes the least free slot of the table that is asked for, and of no other, up to the last.
func TestRefFillsItsTable(t *testing.T) {
	for _, kind := range []int{api.Local, api.Global, api.Weak} {
		h := newHeap(t, config(10, 4, 4, 4, pair))
		wantMake(t, h, 0, 257)
		if kind != api.Local {
			wantRef(t, h, kind, 257, 256+kind)
		}
		for slot := 1; slot < 4; slot++ {
			wantRef(t, h, kind, 257, 256+kind+4*slot)
		}
		want := [6]int{1, 3, 1, 0, 0, 1}
		want[1+kind] = 4
		wantStats(t, h, want)
		wantNoRef(t, h, kind, 257, api.ErrTable, 0)
		mustFree(t, h, 256+kind+4*2, 256+kind+4)
		wantRef(t, h, kind, 257, 512+kind+4)
		wantRef(t, h, kind, 257, 512+kind+4*2)
		wantNoRef(t, h, kind, 257, api.ErrTable, 0)
		wantStats(t, h, want)
	}
}

// P1, P7: wrong inputs, and of several reasons the first: the kind, the handle, the slot.
func TestRefTellsTheFirstReason(t *testing.T) {
	h := newHeap(t, config(10, 1, 1, 1, pair))
	wantMake(t, h, 0, 257)
	wantRef(t, h, api.Global, 257, 258)
	wantRef(t, h, api.Weak, 257, 259)
	for _, kind := range []int{0, 4, -1, math.MinInt, math.MaxInt} {
		for _, handle := range []int{0, 4, 513, 257} {
			wantNoRef(t, h, kind, handle, api.ErrArg, 0)
		}
	}
	for _, kind := range []int{api.Local, api.Global, api.Weak} {
		wantNoRef(t, h, kind, 0, api.ErrNull, 0)
		wantNoRef(t, h, kind, 4, api.ErrForged, 4)
		wantNoRef(t, h, kind, 513, api.ErrStale, 513)
		wantNoRef(t, h, kind, 257, api.ErrTable, 0)
	}
	mustFree(t, h, 257, 258)
	wantCollect(t, h, 1)
	wantNoRef(t, h, 4, 259, api.ErrArg, 0)
	wantNoRef(t, h, api.Weak, 259, api.ErrCleared, 259)
	wantStats(t, h, [6]int{0, 0, 0, 0, 1, 1})
}

func wantNoRef(t *testing.T, h *trove.Heap, kind, handle int, reason error, of int) {
	t.Helper()
	got, err := h.Ref(kind, handle)
	wantRefused(t, "Ref", got, err, reason, of)
}

// P7: Free frees one slot and leaves the object, its other handles and the other tables.
func TestFreeFreesOneHandle(t *testing.T) {
	h := newHeap(t, config(10, 3, 2, 2, pair))
	wantMake(t, h, 0, 257)
	mustSet(t, h, 257, 0, 7)
	wantRef(t, h, api.Global, 257, 258)
	wantRef(t, h, api.Weak, 257, 259)
	wantRef(t, h, api.Local, 257, 261)
	left := map[int]int{257: api.Local, 258: api.Global, 259: api.Weak, 261: api.Local}
	want := [6]int{1, 3, 2, 1, 1, 1}
	for _, handle := range []int{261, 258, 257, 259} {
		mustFree(t, h, handle)
		want[1+left[handle]]--
		delete(left, handle)
		wantBadHandle(t, h, handle, api.ErrStale)
		for other := range left {
			wantGet(t, h, other, 0, 7)
		}
		wantStats(t, h, want)
	}
	wantCollect(t, h, 1)
}

// P3, P12: a slot is taken up to its last generation and then no more; all that it gave out are different, and stale for ever.
func TestGenerationsOfEveryTable(t *testing.T) {
	for _, kind := range []int{api.Local, api.Global, api.Weak} {
		h := newHeap(t, config(10, 3, 3, 3, pair))
		wantMake(t, h, 0, 257)
		first := 0
		if kind == api.Local {
			first = 1
		}
		for slot := first; slot < 3; slot++ {
			for generation := 1; generation <= api.MaxGeneration; generation++ {
				handle := kind + 4*slot + 256*generation
				wantRef(t, h, kind, 257, handle)
				wantGet(t, h, handle, 0, 0)
				mustFree(t, h, handle)
			}
		}
		wantNoRef(t, h, kind, 257, api.ErrTable, 0)
		for slot := first; slot < 3; slot++ {
			for generation := 1; generation <= api.MaxGeneration; generation++ {
				wantBadHandle(t, h, kind+4*slot+256*generation, api.ErrStale)
			}
		}
		wantStats(t, h, [6]int{1, 3, 1, 0, 0, 1})
	}
}

// P3: a handle of the last generation is as good as any, as long as it is not freed.
func TestTheLastGenerationIsGood(t *testing.T) {
	h := newHeap(t, config(10, 1, 1, 1, pair))
	for generation := 1; generation < api.MaxGeneration; generation++ {
		wantMake(t, h, 0, 1+256*generation)
		mustFree(t, h, 1+256*generation)
	}
	last := 1 + 256*api.MaxGeneration
	wantMake(t, h, 0, last)
	mustSet(t, h, last, 0, 5)
	h.Collect()
	wantGet(t, h, last, 0, 5)
	wantRef(t, h, api.Global, last, 258)
	mustFree(t, h, last)
	got, err := h.Make(0)
	wantRefused(t, "Make behind the last generation", got, err, api.ErrTable, 0)
	wantBadHandle(t, h, last, api.ErrStale)
	wantGet(t, h, 258, 0, 5)
}
