package store

import (
	"testing"

	"trove/api"
)

func TestObjectsAreNumberedInTheOrderOfTheirMaking(t *testing.T) {
	s := New(6)
	for want, kinds := range [][]int{{api.Number}, {api.Number, api.Reference}} {
		if got, err := s.Add(kinds); got != want+1 || err != nil {
			t.Errorf("Add = %d, %v, want %d", got, err, want+1)
		}
	}
	if got, err := s.Add([]int{api.Number}); got != 0 || err != api.ErrRoom {
		t.Errorf("Add without room = %d, %v", got, err)
	}
	if got, err := s.Add(nil); got != 3 || err != nil {
		t.Errorf("Add = %d, %v, want 3: a refused object has no number", got, err)
	}
	if s.Count() != 3 || s.Room() != 6 {
		t.Errorf("%d objects, room %d, want 3, 6", s.Count(), s.Room())
	}
}

func TestFindKnowsWhatIsThere(t *testing.T) {
	s := New(6)
	number, _ := s.Add([]int{api.Number})
	if o, ok := s.Find(number); !ok || o == nil {
		t.Errorf("Find(%d) = %v, %v", number, o, ok)
	}
	for _, absent := range []int{0, -1, number + 1} {
		if _, ok := s.Find(absent); ok {
			t.Errorf("Find(%d) finds an object", absent)
		}
	}
}

func TestAnObjectKeepsNothingOfItsKinds(t *testing.T) {
	s := New(6)
	kinds := []int{api.Number, api.Reference}
	number, _ := s.Add(kinds)
	kinds[0], kinds[1] = api.Reference, api.Number
	o, _ := s.Find(number)
	if err := o.SetNumber(0, 4); err != nil {
		t.Errorf("SetNumber: %v", err)
	}
	if v, err := o.Number(0); v != 4 || err != nil {
		t.Errorf("Number(0) = %d, %v, want 4", v, err)
	}
	if v, err := o.Number(1); v != 0 || err != api.ErrField {
		t.Errorf("Number(1) = %d, %v, want ErrField", v, err)
	}
	if err := o.SetNumber(1, 4); err != api.ErrField {
		t.Errorf("SetNumber(1): %v, want ErrField", err)
	}
}
