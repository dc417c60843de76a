package trove_test

import (
	"testing"

	"trove/api"
)

// The document's own example, call by call.
func TestExample(t *testing.T) {
	h := newHeap(t, config(10, 3, 2, 2, pair))
	wantMake(t, h, 0, 257)
	mustSet(t, h, 257, 0, 7)
	wantMake(t, h, 0, 261)
	mustPoint(t, h, 261, 1, 257)
	wantRef(t, h, api.Weak, 257, 259)
	mustFree(t, h, 257)
	wantGet(t, h, 259, 0, 7)
	wantBadHandle(t, h, 257, api.ErrStale)
	wantFollow(t, h, 261, 1, 513)
	mustFree(t, h, 513, 261)
	wantCollect(t, h, 2)
	wantBadHandle(t, h, 259, api.ErrCleared)
	wantStats(t, h, [6]int{0, 0, 0, 0, 1, 1})
	wantMake(t, h, 0, 769)
}

// P3: the document's table.
func TestHandlesOfTheDocument(t *testing.T) {
	h := newHeap(t, config(10, 3, 2, 2, pair))
	wantMake(t, h, 0, 257)
	wantBadHandle(t, h, 0, api.ErrNull)
	for _, handle := range []int{4, -1, 1, 256*51 + 1, 256 + 4*3 + 1} {
		wantBadHandle(t, h, handle, api.ErrForged)
	}
}
