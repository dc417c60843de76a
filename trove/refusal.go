package trove

import (
	"errors"

	"trove/api"
	"trove/handles"
)

// refusal makes of an error of the inner packages the fault that a call answers: the reason is told bare, and a handle only where it is at fault.
func refusal(err error) error {
	if err == nil {
		return nil
	}
	fault := &api.Fault{Err: reason(err)}
	var bad *handles.Bad
	if errors.As(err, &bad) {
		fault.Handle = bad.Handle
	}
	return fault
}

// reason finds which of package api's reasons an error wraps.
func reason(err error) error {
	for _, r := range [...]error{
		api.ErrArg, api.ErrNull, api.ErrForged, api.ErrStale, api.ErrCleared,
		api.ErrField, api.ErrTable, api.ErrRoom, api.ErrFrame, api.ErrPin,
	} {
		if errors.Is(err, r) {
			return r
		}
	}
	return err
}
