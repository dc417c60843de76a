package trove_test

import (
	"math"
	"slices"
	"testing"

	"trove/api"
)

// P5: an object has its own class's fields, and takes their room and one.
func TestMakeGivesTheFieldsOfTheClass(t *testing.T) {
	full := slices.Repeat([]int{api.Number}, api.MaxFields)
	h := newHeap(t, config(50, 5, 1, 1, []int{api.Reference, api.Number}, nil, full))
	wantMake(t, h, 2, 257)
	wantStats(t, h, [6]int{1, 9, 1, 0, 0, 1})
	wantMake(t, h, 0, 261)
	wantStats(t, h, [6]int{2, 12, 2, 0, 0, 1})
	wantMake(t, h, 1, 265)
	wantStats(t, h, [6]int{3, 13, 3, 0, 0, 1})
	for i := range api.MaxFields {
		wantGet(t, h, 257, i, 0)
	}
	wantNoNumber(t, h.Get, 257, api.MaxFields)
	wantNoNumber(t, h.Get, 261, 0)
	wantGet(t, h, 261, 1, 0)
	wantNoNumber(t, h.Get, 261, 2)
	wantNoNumber(t, h.Get, 265, 0)
}

// P5: an array has as many fields as are asked for, all of the kind that is asked for.
func TestArrayGivesItsElements(t *testing.T) {
	h := newHeap(t, config(api.MaxRoom, 6, 1, 1, nil))
	wantArray(t, h, api.Number, api.MaxElements, 257)
	wantArray(t, h, api.Reference, api.MaxElements, 261)
	wantArray(t, h, api.Number, 0, 265)
	wantArray(t, h, api.Reference, 0, 269)
	wantArray(t, h, api.Number, 3, 273)
	wantStats(t, h, [6]int{5, 33 + 33 + 1 + 1 + 4, 5, 0, 0, 1})
	for i := range api.MaxElements {
		wantGet(t, h, 257, i, 0)
		wantNoNumber(t, h.Get, 261, i)
	}
	wantNoNumber(t, h.Get, 257, api.MaxElements)
	wantNoNumber(t, h.Get, 265, 0)
	wantNoNumber(t, h.Get, 269, 0)
	wantGet(t, h, 273, 2, 0)
	wantNoNumber(t, h.Get, 273, 3)
}

func wantNoNumber(t *testing.T, get func(int, int) (int, error), handle, i int) {
	t.Helper()
	got, err := get(handle, i)
	wantRefused(t, "Get", got, err, api.ErrField, 0)
}

// P5: the least free slot is taken, up to the last one; then there is none.
func TestSlotsAreTakenInOrder(t *testing.T) {
	h := newHeap(t, config(api.MaxRoom, api.MaxSlots, 1, 1, []int{api.Number}))
	for i := range api.MaxSlots {
		wantMake(t, h, 0, 257+4*i)
		mustSet(t, h, 257+4*i, 0, 100+i)
	}
	got, err := h.Make(0)
	wantRefused(t, "Make without a slot", got, err, api.ErrTable, 0)
	got, err = h.Array(api.Number, 0)
	wantRefused(t, "Array without a slot", got, err, api.ErrTable, 0)
	wantStats(t, h, [6]int{16, 32, 16, 0, 0, 1})
	for i := range api.MaxSlots {
		wantGet(t, h, 257+4*i, 0, 100+i)
	}
}

// P5: with one slot there is one object.
func TestOneSlot(t *testing.T) {
	h := newHeap(t, config(10, 1, 2, 2, pair))
	wantMake(t, h, 0, 257)
	got, err := h.Make(0)
	wantRefused(t, "Make without a slot", got, err, api.ErrTable, 0)
	wantStats(t, h, [6]int{1, 3, 1, 0, 0, 1})
}

// P5: the room may be filled to the last, and not beyond.
func TestRoomIsFilledToTheLast(t *testing.T) {
	h := newHeap(t, config(10, 8, 1, 1, pair, nil))
	wantArray(t, h, api.Reference, 5, 257)
	got, err := h.Array(api.Number, 4)
	wantRefused(t, "Array of one too many", got, err, api.ErrRoom, 0)
	wantMake(t, h, 0, 261)
	got, err = h.Make(0)
	wantRefused(t, "Make without room", got, err, api.ErrRoom, 0)
	wantStats(t, h, [6]int{2, 9, 2, 0, 0, 1})
	wantMake(t, h, 1, 265)
	wantStats(t, h, [6]int{3, 10, 3, 0, 0, 1})
	got, err = h.Make(1)
	wantRefused(t, "Make of no fields without room", got, err, api.ErrRoom, 0)
	got, err = h.Array(api.Reference, 0)
	wantRefused(t, "Array of no fields without room", got, err, api.ErrRoom, 0)
	wantStats(t, h, [6]int{3, 10, 3, 0, 0, 1})
}

// P5: what is bigger than all the room can never be; what is as big can.
func TestOneObjectOfAllTheRoom(t *testing.T) {
	h := newHeap(t, config(3, 2, 1, 1, pair, []int{1, 1, 1}))
	got, err := h.Make(1)
	wantRefused(t, "Make of more than the room", got, err, api.ErrRoom, 0)
	got, err = h.Array(api.Number, api.MaxElements)
	wantRefused(t, "Array of more than the room", got, err, api.ErrRoom, 0)
	wantMake(t, h, 0, 257)
	wantStats(t, h, [6]int{1, 3, 1, 0, 0, 1})
}

// P5: wrong inputs.
func TestMakeAndArrayRefuseArguments(t *testing.T) {
	h := newHeap(t, config(api.MaxRoom, 8, 1, 1, pair, nil))
	for _, class := range []int{-1, 2, math.MinInt, math.MaxInt} {
		got, err := h.Make(class)
		wantRefused(t, "Make of no class", got, err, api.ErrArg, 0)
	}
	for _, kind := range []int{0, 3, -1, math.MinInt, math.MaxInt} {
		got, err := h.Array(kind, 1)
		wantRefused(t, "Array of no kind", got, err, api.ErrArg, 0)
	}
	for _, n := range []int{-1, api.MaxElements + 1, math.MinInt, math.MaxInt} {
		for _, kind := range []int{api.Number, api.Reference} {
			got, err := h.Array(kind, n)
			wantRefused(t, "Array of a wrong number", got, err, api.ErrArg, 0)
		}
	}
	wantStats(t, h, [6]int{0, 0, 0, 0, 0, 1})
	wantMake(t, h, 1, 257)
}

// P1, P5: of several reasons the first: ErrArg, ErrTable, ErrRoom.
func TestMakeTellsTheFirstReason(t *testing.T) {
	h := newHeap(t, config(3, 1, 1, 1, pair))
	wantMake(t, h, 0, 257)
	got, err := h.Make(1)
	wantRefused(t, "Make: class, slot and room", got, err, api.ErrArg, 0)
	got, err = h.Array(0, 1)
	wantRefused(t, "Array: kind, slot and room", got, err, api.ErrArg, 0)
	got, err = h.Array(api.Number, api.MaxElements+1)
	wantRefused(t, "Array: number, slot and room", got, err, api.ErrArg, 0)
	got, err = h.Make(0)
	wantRefused(t, "Make: slot and room", got, err, api.ErrTable, 0)
	got, err = h.Array(api.Number, 1)
	wantRefused(t, "Array: slot and room", got, err, api.ErrTable, 0)
}

// P1: refused calls change nothing: neither slots nor generations nor fields nor room.
func TestRefusalsChangeNothing(t *testing.T) {
	h := newHeap(t, config(8, 3, 1, 1, pair))
	wantMake(t, h, 0, 257)
	mustSet(t, h, 257, 0, 9)
	for range 100 {
		h.Make(1)
		h.Array(api.Number, 6)
		h.Array(3, 1)
		h.Set(257, 0, api.MaxValue+1)
		h.Set(257, 1, 4)
		h.Set(261, 0, 4)
	}
	wantStats(t, h, [6]int{1, 3, 1, 0, 0, 1})
	wantGet(t, h, 257, 0, 9)
	wantArray(t, h, api.Number, 4, 261)
	wantGet(t, h, 261, 0, 0)
	wantStats(t, h, [6]int{2, 8, 2, 0, 0, 1})
}

// P1, P11: the answer of Stats is the caller's, and asking changes nothing.
func TestStatsIsTheCallers(t *testing.T) {
	h := newHeap(t, config(10, 3, 2, 2, pair))
	wantMake(t, h, 0, 257)
	s := h.Stats()
	s[0], s[1], s[5] = 9, 9, 9
	wantStats(t, h, [6]int{1, 3, 1, 0, 0, 1})
	wantStats(t, h, [6]int{1, 3, 1, 0, 0, 1})
}
