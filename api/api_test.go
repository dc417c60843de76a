package api

import (
	"errors"
	"testing"
)

// The bounds and kinds that the document's examples and handles are reckoned with.
func TestNumbers(t *testing.T) {
	got := [...]int{MaxClasses, MaxFields, MaxElements, MaxRoom, MaxSlots, MaxGeneration, MaxFrames, MaxPins, MaxValue, Local, Global, Weak, Number, Reference}
	want := [...]int{8, 8, 32, 200, 16, 50, 6, 3, 1000000000, 1, 2, 3, 1, 2}
	if got != want {
		t.Errorf("numbers %v, want %v", got, want)
	}
}

func TestFaultWrapsItsReason(t *testing.T) {
	err := error(&Fault{Handle: 257, Err: ErrStale})
	if !errors.Is(err, ErrStale) || errors.Is(err, ErrForged) {
		t.Errorf("%v wraps another reason", err)
	}
	var fault *Fault
	if !errors.As(err, &fault) || fault.Handle != 257 {
		t.Errorf("%v is no fault of 257", err)
	}
	if err.Error() != ErrStale.Error() {
		t.Errorf("Error() = %q, want %q", err.Error(), ErrStale.Error())
	}
}
