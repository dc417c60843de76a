package handles

import (
	"errors"
	"slices"
	"testing"

	"trove/api"
)

// take: the slot that is next, and its handle.
func take(t *testing.T, tables *Tables, kind, object int) int {
	t.Helper()
	vacant, err := tables.Vacant(kind)
	if err != nil {
		t.Fatalf("Vacant(%d): %v", kind, err)
	}
	return tables.Take(kind, vacant, object)
}

func TestHandleIsMadeOfItsParts(t *testing.T) {
	tables := New(2, 2, 2)
	for _, kind := range []int{api.Local, api.Global, api.Weak} {
		for slot := range 2 {
			if got := take(t, tables, kind, 9); got != kind+4*slot+256 {
				t.Errorf("kind %d, slot %d: handle %d", kind, slot, got)
			}
		}
		if _, err := tables.Vacant(kind); err != api.ErrTable {
			t.Errorf("Vacant(%d) of a full table: %v", kind, err)
		}
	}
}

func TestTheLeastFreeSlotIsTakenWithItsNextGeneration(t *testing.T) {
	tables := New(3, 1, 1)
	for object := 1; object <= 3; object++ {
		take(t, tables, api.Local, object)
	}
	mustFree(t, tables, 1+8+256)
	mustFree(t, tables, 1+4+256)
	if got := take(t, tables, api.Local, 4); got != 1+4+2*256 {
		t.Errorf("handle %d, want slot 1, generation 2", got)
	}
	wantObject(t, tables, 1+4+2*256, 4)
	wantBad(t, tables, 1+4+256, api.ErrStale)
	wantBad(t, tables, 1+8+256, api.ErrStale)
	wantObject(t, tables, 257, 1)
	if n := tables.Taken(api.Local); n != 2 {
		t.Errorf("Taken = %d, want 2", n)
	}
}

func TestASlotIsTakenUpToTheLastGeneration(t *testing.T) {
	tables := New(1, 1, 2)
	for generation := 1; generation <= api.MaxGeneration; generation++ {
		handle := take(t, tables, api.Local, 7)
		if handle != 1+256*generation {
			t.Errorf("handle %d, want generation %d", handle, generation)
		}
		wantObject(t, tables, handle, 7)
		mustFree(t, tables, handle)
		wantBad(t, tables, handle, api.ErrStale)
	}
	if _, err := tables.Vacant(api.Local); err != api.ErrTable {
		t.Errorf("Vacant behind the last generation: %v", err)
	}
	for range api.MaxGeneration {
		mustFree(t, tables, take(t, tables, api.Weak, 7))
	}
	if got := take(t, tables, api.Weak, 7); got != 3+4+256 {
		t.Errorf("handle %d, want slot 1, as slot 0 is used up", got)
	}
}

func TestFreeFreesOneSlotOfOneTable(t *testing.T) {
	tables := New(2, 2, 2)
	for _, kind := range []int{api.Local, api.Global, api.Weak} {
		take(t, tables, kind, 5)
		take(t, tables, kind, 6)
	}
	mustFree(t, tables, 2+256)
	wantBad(t, tables, 2+256, api.ErrStale)
	wantHeld(t, tables, api.Local, 5, 6)
	wantHeld(t, tables, api.Global, 6)
	wantHeld(t, tables, api.Weak, 5, 6)
	mustFree(t, tables, 3+4+256)
	wantHeld(t, tables, api.Weak, 5)
	wantHeld(t, tables, api.Global, 6)
	mustFree(t, tables, 2+4+256)
	wantHeld(t, tables, api.Global)
}

func TestFreeRefusesWhatIsNoHandle(t *testing.T) {
	tables := New(2, 1, 1)
	handle := take(t, tables, api.Local, 5)
	for bad, reason := range map[int]error{0: api.ErrNull, -handle: api.ErrForged, handle + 8: api.ErrForged, handle + 4: api.ErrStale, handle + 256: api.ErrStale} {
		if err := tables.Free(bad); !errors.Is(err, reason) {
			t.Errorf("Free(%d): %v, want %v", bad, err, reason)
		}
	}
	wantHeld(t, tables, api.Local, 5)
}

func TestHeldIsTheCallers(t *testing.T) {
	tables := New(2, 1, 1)
	handle := take(t, tables, api.Local, 5)
	held := tables.Held(api.Local)
	held[0] = 9
	wantObject(t, tables, handle, 5)
	wantHeld(t, tables, api.Local, 5)
}

func TestBadTellsHandleAndReason(t *testing.T) {
	err := error(&Bad{Handle: 257, Err: api.ErrStale})
	if want := "handle 257: " + api.ErrStale.Error(); err.Error() != want {
		t.Errorf("Error() = %q, want %q", err.Error(), want)
	}
	if !errors.Is(err, api.ErrStale) {
		t.Error("the reason is not wrapped")
	}
}

func mustFree(t *testing.T, tables *Tables, handle int) {
	t.Helper()
	if err := tables.Free(handle); err != nil {
		t.Errorf("Free(%d): %v", handle, err)
	}
}

func wantHeld(t *testing.T, tables *Tables, kind int, want ...int) {
	t.Helper()
	if got := tables.Held(kind); !slices.Equal(got, want) {
		t.Errorf("Held(%d) = %v, want %v", kind, got, want)
	}
	if got := tables.Taken(kind); got != len(want) {
		t.Errorf("Taken(%d) = %d, want %d", kind, got, len(want))
	}
}

func wantObject(t *testing.T, tables *Tables, handle, want int) {
	t.Helper()
	if got, err := tables.Object(handle); got != want || err != nil {
		t.Errorf("Object(%d) = %d, %v, want %d", handle, got, err, want)
	}
}

func wantBad(t *testing.T, tables *Tables, handle int, reason error) {
	t.Helper()
	var bad *Bad
	got, err := tables.Object(handle)
	if !errors.As(err, &bad) || bad.Err != reason || bad.Handle != handle || got != 0 {
		t.Errorf("Object(%d) = %d, %v, want %v", handle, got, err, reason)
	}
}
