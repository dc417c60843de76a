package handles

import (
	"slices"
	"testing"

	"trove/api"
)

func wantFrames(t *testing.T, tables *Tables, want int) {
	t.Helper()
	if got := tables.Frames(); got != want {
		t.Errorf("Frames() = %d, want %d", got, want)
	}
}

func wantPop(t *testing.T, tables *Tables, object, want int) {
	t.Helper()
	if got, err := tables.Pop(object); got != want || err != nil {
		t.Errorf("Pop(%d) = %d, %v, want %d", object, got, err, want)
	}
}

func TestPopFreesTheLocalSlotsOfTheLastFrame(t *testing.T) {
	tables := New(5, 3, 3)
	wantFrames(t, tables, 1)
	first := take(t, tables, api.Local, 5)
	between := take(t, tables, api.Local, 6)
	tables.Push()
	wantFrames(t, tables, 2)
	mustFree(t, tables, between)
	second := take(t, tables, api.Local, 7)
	tables.Push()
	for object := 8; object <= 9; object++ {
		for _, kind := range []int{api.Local, api.Global, api.Weak} {
			take(t, tables, kind, object)
		}
	}
	wantFrames(t, tables, 3)
	wantPop(t, tables, 0, 0)
	wantFrames(t, tables, 2)
	wantHeld(t, tables, api.Local, 5, 7)
	wantPop(t, tables, 0, 0)
	wantFrames(t, tables, 1)
	wantHeld(t, tables, api.Local, 5)
	wantObject(t, tables, first, 5)
	wantBad(t, tables, second, api.ErrStale)
	wantHeld(t, tables, api.Global, 8, 9)
	wantHeld(t, tables, api.Weak, 8, 9)
}

func TestWhatComesOutBelongsToTheFrameBefore(t *testing.T) {
	tables := New(2, 1, 1)
	tables.Push()
	tables.Push()
	take(t, tables, api.Local, 5)
	take(t, tables, api.Local, 6)
	wantPop(t, tables, 6, 1+2*256)
	wantHeld(t, tables, api.Local, 6)
	wantFrames(t, tables, 2)
	wantPop(t, tables, 0, 0)
	wantHeld(t, tables, api.Local)
	wantBad(t, tables, 1+2*256, api.ErrStale)
}

func TestPopWithoutASlotChangesNothing(t *testing.T) {
	tables := New(2, 1, 1)
	take(t, tables, api.Local, 5)
	tables.Push()
	for range api.MaxGeneration - 1 {
		mustFree(t, tables, take(t, tables, api.Local, 6))
	}
	last := take(t, tables, api.Local, 7)
	for range 2 {
		if got, err := tables.Pop(7); got != 0 || err != api.ErrTable {
			t.Errorf("Pop = %d, %v, want ErrTable", got, err)
		}
		wantSlots(t, tables, slot{5, 1}, slot{7, 2})
	}
	wantFrames(t, tables, 2)
	wantObject(t, tables, last, 7)
	wantPop(t, tables, 0, 0)
	wantHeld(t, tables, api.Local, 5)
}

// What is free keeps neither object nor frame.
func TestFreeSlotsAreBlank(t *testing.T) {
	tables := New(3, 1, 1)
	take(t, tables, api.Local, 5)
	freed := take(t, tables, api.Local, 6)
	mustFree(t, tables, freed)
	wantSlots(t, tables, slot{5, 1}, slot{}, slot{})
	tables.Push()
	take(t, tables, api.Local, 7)
	take(t, tables, api.Local, 8)
	wantSlots(t, tables, slot{5, 1}, slot{7, 2}, slot{8, 2})
	wantPop(t, tables, 0, 0)
	wantSlots(t, tables, slot{5, 1}, slot{}, slot{})
}

func wantSlots(t *testing.T, tables *Tables, want ...slot) {
	t.Helper()
	if got := tables.tables[api.Local].slots; !slices.Equal(got, want) {
		t.Errorf("slots %v, want %v", got, want)
	}
}
