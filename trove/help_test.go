package trove_test

import (
	"errors"
	"slices"
	"testing"

	"trove/api"
	"trove/trove"
)

// pair is a class of a number and a reference.
var pair = []int{api.Number, api.Reference}

func config(room, locals, globals, weaks int, classes ...[]int) api.Config {
	return api.Config{Room: room, Locals: locals, Globals: globals, Weaks: weaks, Classes: classes}
}

func newHeap(t *testing.T, c api.Config) *trove.Heap {
	t.Helper()
	h, err := trove.New(c)
	if err != nil || h == nil {
		t.Fatalf("New(%+v) = %v, %v, want a heap", c, h, err)
	}
	return h
}

// wantFault: the error is itself a fault, holds the reason bare and wraps it, and tells this handle.
func wantFault(t *testing.T, what string, err, reason error, handle int) {
	t.Helper()
	fault, ok := err.(*api.Fault)
	if !ok {
		t.Errorf("%s: error %v (%T), want a fault: %v", what, err, err, reason)
		return
	}
	if fault.Err != reason || !errors.Is(err, reason) {
		t.Errorf("%s: refused for %v, want %v", what, fault.Err, reason)
	}
	if fault.Handle != handle {
		t.Errorf("%s: fault of handle %d, want %d", what, fault.Handle, handle)
	}
}

// wantRefused: a call with a number as its other result was refused; that number is 0.
func wantRefused(t *testing.T, what string, got int, err, reason error, handle int) {
	t.Helper()
	wantFault(t, what, err, reason, handle)
	if got != 0 {
		t.Errorf("%s: %d beside an error, want 0", what, got)
	}
}

func wantNumber(t *testing.T, what string, got int, err error, want int) {
	t.Helper()
	if err != nil || got != want {
		t.Errorf("%s = %d, %v, want %d", what, got, err, want)
	}
}

func wantMake(t *testing.T, h *trove.Heap, class, want int) {
	t.Helper()
	got, err := h.Make(class)
	wantNumber(t, "Make", got, err, want)
}

func wantArray(t *testing.T, h *trove.Heap, kind, n, want int) {
	t.Helper()
	got, err := h.Array(kind, n)
	wantNumber(t, "Array", got, err, want)
}

func wantGet(t *testing.T, h *trove.Heap, handle, i, want int) {
	t.Helper()
	got, err := h.Get(handle, i)
	wantNumber(t, "Get", got, err, want)
}

func mustSet(t *testing.T, h *trove.Heap, handle, i, v int) {
	t.Helper()
	if err := h.Set(handle, i, v); err != nil {
		t.Errorf("Set(%d, %d, %d): %v", handle, i, v, err)
	}
}

func wantFollow(t *testing.T, h *trove.Heap, handle, i, want int) {
	t.Helper()
	got, err := h.Follow(handle, i)
	wantNumber(t, "Follow", got, err, want)
}

func mustPoint(t *testing.T, h *trove.Heap, handle, i, to int) {
	t.Helper()
	if err := h.Point(handle, i, to); err != nil {
		t.Errorf("Point(%d, %d, %d): %v", handle, i, to, err)
	}
}

func wantSame(t *testing.T, h *trove.Heap, a, b int, want bool) {
	t.Helper()
	if got, err := h.Same(a, b); got != want || err != nil {
		t.Errorf("Same(%d, %d) = %v, %v, want %v", a, b, got, err, want)
	}
}

func wantNotSame(t *testing.T, h *trove.Heap, a, b int, reason error, handle int) {
	t.Helper()
	got, err := h.Same(a, b)
	wantFault(t, "Same", err, reason, handle)
	if got {
		t.Errorf("Same(%d, %d): true beside an error", a, b)
	}
}

func wantRef(t *testing.T, h *trove.Heap, kind, handle, want int) {
	t.Helper()
	got, err := h.Ref(kind, handle)
	wantNumber(t, "Ref", got, err, want)
}

func mustFree(t *testing.T, h *trove.Heap, handles ...int) {
	t.Helper()
	for _, handle := range handles {
		if err := h.Free(handle); err != nil {
			t.Errorf("Free(%d): %v", handle, err)
		}
	}
}

func wantCollect(t *testing.T, h *trove.Heap, want int) {
	t.Helper()
	if got := h.Collect(); got != want {
		t.Errorf("Collect() = %d, want %d", got, want)
	}
}

// wantBadHandle: every call that asks for a handle refuses this one for this reason, whatever else is wrong, and changes nothing.
func wantBadHandle(t *testing.T, h *trove.Heap, handle int, reason error) {
	t.Helper()
	before := h.Stats()
	got, err := h.Get(handle, 0)
	wantRefused(t, "Get", got, err, reason, handle)
	wantFault(t, "Set", h.Set(handle, 0, 1), reason, handle)
	got, err = h.Follow(handle, 1)
	wantRefused(t, "Follow", got, err, reason, handle)
	wantFault(t, "Point", h.Point(handle, 1, 0), reason, handle)
	got, err = h.Ref(api.Global, handle)
	wantRefused(t, "Ref", got, err, reason, handle)
	if handle != 0 {
		wantNotSame(t, h, handle, 0, reason, handle)
		wantNotSame(t, h, 0, handle, reason, handle)
		wantNotSame(t, h, handle, handle, reason, handle)
	}
	if reason != api.ErrCleared {
		wantFault(t, "Free", h.Free(handle), reason, handle)
	}
	wantFault(t, "Pin", h.Pin(handle), reason, handle)
	wantFault(t, "Unpin", h.Unpin(handle), reason, handle)
	wantBadToPop(t, h, handle, reason)
	wantStats(t, h, before)
}

// wantBadToPop: Pop refuses this handle for this reason, unless it is 0. There is a frame more meanwhile, so that one can end, if there can be.
func wantBadToPop(t *testing.T, h *trove.Heap, handle int, reason error) {
	t.Helper()
	if handle == 0 {
		return
	}
	pushed := h.Push() == nil
	wantNoPop(t, h, handle, reason, handle)
	if pushed {
		wantPop(t, h, 0, 0)
	}
}

func mustPush(t *testing.T, h *trove.Heap) {
	t.Helper()
	if err := h.Push(); err != nil {
		t.Errorf("Push: %v", err)
	}
}

func wantPop(t *testing.T, h *trove.Heap, handle, want int) {
	t.Helper()
	got, err := h.Pop(handle)
	wantNumber(t, "Pop", got, err, want)
}

// wantNoPop: a Pop was refused for this reason.
func wantNoPop(t *testing.T, h *trove.Heap, handle int, reason error, of int) {
	t.Helper()
	got, err := h.Pop(handle)
	wantRefused(t, "Pop", got, err, reason, of)
}

func mustPin(t *testing.T, h *trove.Heap, handles ...int) {
	t.Helper()
	for _, handle := range handles {
		if err := h.Pin(handle); err != nil {
			t.Errorf("Pin(%d): %v", handle, err)
		}
	}
}

func mustUnpin(t *testing.T, h *trove.Heap, handles ...int) {
	t.Helper()
	for _, handle := range handles {
		if err := h.Unpin(handle); err != nil {
			t.Errorf("Unpin(%d): %v", handle, err)
		}
	}
}

func wantStats(t *testing.T, h *trove.Heap, want [6]int) {
	t.Helper()
	if got := h.Stats(); got != want {
		t.Errorf("Stats() = %v, want %v", got, want)
	}
}

func wantExtern(t *testing.T, h *trove.Heap, name, want int) {
	t.Helper()
	got, err := h.Extern(name)
	wantNumber(t, "Extern", got, err, want)
}

// wantNoExtern: an Extern was refused for this reason.
func wantNoExtern(t *testing.T, h *trove.Heap, name int, reason error) {
	t.Helper()
	got, err := h.Extern(name)
	wantRefused(t, "Extern", got, err, reason, 0)
}

func wantEnded(t *testing.T, h *trove.Heap, want ...int) {
	t.Helper()
	if got := h.Ended(); !slices.Equal(got, want) {
		t.Errorf("Ended() = %v, want %v", got, want)
	}
}
