package trove

import (
	"testing"

	"trove/api"
	"trove/handles"
)

// Errors: every reason is told just as it stands in package api, however it was wrapped; a handle only where it is at fault.
func TestRefusal(t *testing.T) {
	if err := refusal(nil); err != nil {
		t.Errorf("refusal(nil) = %v", err)
	}
	for _, reason := range []error{api.ErrArg, api.ErrNull, api.ErrForged, api.ErrStale, api.ErrCleared, api.ErrField, api.ErrTable, api.ErrRoom, api.ErrFrame, api.ErrPin} {
		fault, ok := refusal(reason).(*api.Fault)
		if !ok || fault.Err != reason || fault.Handle != 0 {
			t.Errorf("refusal(%v) = %+v", reason, fault)
		}
		fault, ok = refusal(&handles.Bad{Handle: 5, Err: reason}).(*api.Fault)
		if !ok || fault.Err != reason || fault.Handle != 5 {
			t.Errorf("refusal of handle 5, %v = %+v", reason, fault)
		}
	}
}
