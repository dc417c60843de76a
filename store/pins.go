package store

import "trove/api"

// Pin gives the object one pin more.
func (o *Object) Pin() error {
	if o.pins == api.MaxPins {
		return api.ErrPin
	}
	o.pins++
	return nil
}

// Unpin takes one of the object's pins away.
func (o *Object) Unpin() error {
	if o.pins == 0 {
		return api.ErrPin
	}
	o.pins--
	return nil
}

// pinned finds the numbers of all objects that have pins. Their order is that of a map, and does not matter: they are only set out from.
func (s *Store) pinned() []int {
	pinned := []int{}
	for number, o := range s.objects {
		if o.pins > 0 {
			pinned = append(pinned, number)
		}
	}
	return pinned
}
