package store

import (
	"testing"

	"trove/api"
)

func wantPin(t *testing.T, s *Store, number int, want error) {
	t.Helper()
	o, _ := s.Find(number)
	if err := o.Pin(); err != want {
		t.Errorf("Pin of %d: %v, want %v", number, err, want)
	}
}

func wantUnpin(t *testing.T, s *Store, number int, want error) {
	t.Helper()
	o, _ := s.Find(number)
	if err := o.Unpin(); err != want {
		t.Errorf("Unpin of %d: %v, want %v", number, err, want)
	}
}

func TestPinsAreCountedUpToMaxPins(t *testing.T) {
	s := chain(t, 2)
	for range 2 {
		wantUnpin(t, s, 1, api.ErrPin)
		for range api.MaxPins {
			wantPin(t, s, 1, nil)
		}
		wantPin(t, s, 1, api.ErrPin)
		wantUnpin(t, s, 2, api.ErrPin)
		for range api.MaxPins {
			wantUnpin(t, s, 1, nil)
		}
	}
}

func TestCollectKeepsWhatHasPinsAndWhereItLeads(t *testing.T) {
	s := chain(t, 6)
	point(t, s, 4, 0, 0)
	wantPin(t, s, 2, nil)
	wantPin(t, s, 2, nil)
	if got := s.Collect([]int{5}); got != 2 {
		t.Errorf("Collect = %d, want 2", got)
	}
	wantThere(t, s, 1, 2, 4, 5)
	wantUnpin(t, s, 2, nil)
	if got := s.Collect(nil); got != 2 {
		t.Errorf("Collect = %d, want 2", got)
	}
	wantThere(t, s, 1, 2)
	wantUnpin(t, s, 2, nil)
	if got := s.Collect(nil); got != 2 {
		t.Errorf("Collect = %d, want 2", got)
	}
	wantThere(t, s)
}
