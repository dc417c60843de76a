package trove

import (
	"errors"
	"testing"

	"trove/api"
	"trove/handles"
)

// P3: a weak handle whose object has ended. No call ends one yet, so the handle is taken by hand, of an object that is not there.
func TestClearedHandle(t *testing.T) {
	h, err := New(api.Config{Room: 10, Locals: 3, Globals: 2, Weaks: 2, Classes: [][]int{{api.Number}}})
	if err != nil {
		t.Fatal(err)
	}
	weak := h.handles.Take(api.Weak, 1, 77)
	if weak != 3+4+256 {
		t.Fatalf("weak handle %d", weak)
	}
	v, err := h.Get(weak, 9)
	var fault *api.Fault
	if !errors.As(err, &fault) || fault.Err != api.ErrCleared || fault.Handle != weak || v != 0 {
		t.Errorf("Get = %d, %v, want ErrCleared of %d", v, err, weak)
	}
	err = h.Set(weak, 9, api.MaxValue+1)
	if !errors.As(err, &fault) || fault.Err != api.ErrCleared || fault.Handle != weak {
		t.Errorf("Set: %v, want ErrCleared of %d", err, weak)
	}
	if s := h.Stats(); s != [6]int{0, 0, 0, 0, 1, 1} {
		t.Errorf("Stats() = %v: the slot is not free", s)
	}
}

// P3, P11: handles of every kind are good, and are counted by their tables.
func TestHandlesOfEveryKind(t *testing.T) {
	h, err := New(api.Config{Room: 10, Locals: 3, Globals: 2, Weaks: 2, Classes: [][]int{{api.Number}}})
	if err != nil {
		t.Fatal(err)
	}
	local, _ := h.Make(0)
	number, _ := h.handles.Object(local)
	all := []int{local, h.handles.Take(api.Global, 0, number), h.handles.Take(api.Weak, 0, number), h.handles.Take(api.Weak, 1, number)}
	for i, handle := range all {
		if err := h.Set(handle, 0, 10+i); err != nil {
			t.Errorf("Set(%d): %v", handle, err)
		}
		for _, other := range all {
			if v, err := h.Get(other, 0); v != 10+i || err != nil {
				t.Errorf("Get(%d) = %d, %v, want %d", other, v, err, 10+i)
			}
		}
	}
	if s := h.Stats(); s != [6]int{1, 2, 1, 1, 2, 1} {
		t.Errorf("Stats() = %v", s)
	}
}

// Errors: every reason is told just as it stands in package api, however it was wrapped; a handle only where it is at fault.
func TestRefusal(t *testing.T) {
	if err := refusal(nil); err != nil {
		t.Errorf("refusal(nil) = %v", err)
	}
	for _, reason := range []error{api.ErrArg, api.ErrNull, api.ErrForged, api.ErrStale, api.ErrCleared, api.ErrField, api.ErrTable, api.ErrRoom, api.ErrFrame, api.ErrPin} {
		fault, ok := refusal(reason).(*api.Fault)
		if !ok || fault.Err != reason || fault.Handle != 0 {
			t.Errorf("refusal(%v) = %+v", reason, fault)
		}
		fault, ok = refusal(&handles.Bad{Handle: 5, Err: reason}).(*api.Fault)
		if !ok || fault.Err != reason || fault.Handle != 5 {
			t.Errorf("refusal of handle 5, %v = %+v", reason, fault)
		}
	}
}
