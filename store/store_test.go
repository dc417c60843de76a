package store

import (
	"maps"
	"slices"
	"testing"

	"trove/api"
)

func TestObjectsAreNumberedInTheOrderOfTheirMaking(t *testing.T) {
	s := New(6)
	for want, kinds := range [][]int{{api.Number}, {api.Number, api.Reference}} {
		if got, err := s.Add(Blank(kinds)); got != want+1 || err != nil {
			t.Errorf("Add = %d, %v, want %d", got, err, want+1)
		}
	}
	if got, err := s.Add(Blank([]int{api.Number})); got != 0 || err != api.ErrRoom {
		t.Errorf("Add without room = %d, %v", got, err)
	}
	if got, err := s.Add(Blank(nil)); got != 3 || err != nil {
		t.Errorf("Add = %d, %v, want 3: a refused object has no number", got, err)
	}
	if s.Count() != 3 || s.Room() != 6 {
		t.Errorf("%d objects, room %d, want 3, 6", s.Count(), s.Room())
	}
}

func TestFindKnowsWhatIsThere(t *testing.T) {
	s := New(6)
	number, _ := s.Add(Blank([]int{api.Number}))
	if o, ok := s.Find(number); !ok || o == nil {
		t.Errorf("Find(%d) = %v, %v", number, o, ok)
	}
	for _, absent := range []int{0, -1, number + 1} {
		if _, ok := s.Find(absent); ok {
			t.Errorf("Find(%d) finds an object", absent)
		}
	}
}

func TestAnObjectKeepsNothingOfItsKinds(t *testing.T) {
	s := New(6)
	kinds := []int{api.Number, api.Reference}
	number, _ := s.Add(Blank(kinds))
	kinds[0], kinds[1] = api.Reference, api.Number
	o, _ := s.Find(number)
	if err := o.SetNumber(0, 4); err != nil {
		t.Errorf("SetNumber: %v", err)
	}
	if v, err := o.Number(0); v != 4 || err != nil {
		t.Errorf("Number(0) = %d, %v, want 4", v, err)
	}
	if v, err := o.Number(1); v != 0 || err != api.ErrField {
		t.Errorf("Number(1) = %d, %v, want ErrField", v, err)
	}
	if err := o.SetNumber(1, 4); err != api.ErrField {
		t.Errorf("SetNumber(1): %v, want ErrField", err)
	}
}

// chain: an object that refers to the one before it, so many times; the numbers are 1 to n.
func chain(t *testing.T, n int) *Store {
	t.Helper()
	s := New(2 * n)
	for before := range n {
		number, err := s.Add(Blank([]int{api.Reference}))
		if err != nil || number != before+1 {
			t.Fatalf("Add = %d, %v", number, err)
		}
		point(t, s, number, 0, before)
	}
	return s
}

func point(t *testing.T, s *Store, number, i, to int) {
	t.Helper()
	o, _ := s.Find(number)
	if err := o.SetReference(i, to); err != nil {
		t.Errorf("SetReference(%d) of %d: %v", i, number, err)
	}
	if got, err := o.Reference(i); got != to || err != nil {
		t.Errorf("Reference(%d) of %d = %d, %v, want %d", i, number, got, err, to)
	}
}

func wantThere(t *testing.T, s *Store, want ...int) {
	t.Helper()
	if got := slices.Sorted(maps.Keys(s.objects)); !slices.Equal(got, want) {
		t.Errorf("objects %v, want %v", got, want)
	}
}

func TestCollectKeepsWhatIsReached(t *testing.T) {
	for root, want := range map[int][]int{0: nil, 1: {1}, 3: {1, 2, 3}, 5: {1, 2, 3, 4, 5}} {
		s := chain(t, 5)
		from := []int{}
		if root != 0 {
			from = []int{root, root}
		}
		if got := s.Collect(from); got != 5-len(want) {
			t.Errorf("Collect(%v) = %d, want %d", from, got, 5-len(want))
		}
		wantThere(t, s, want...)
		if s.Count() != len(want) || s.Room() != 2*len(want) {
			t.Errorf("%d objects, room %d, want %d, %d", s.Count(), s.Room(), len(want), 2*len(want))
		}
		if got := s.Collect(from); got != 0 {
			t.Errorf("Collect once more = %d", got)
		}
	}
}

func TestCollectGoesRoundARingOnce(t *testing.T) {
	s := chain(t, 6)
	point(t, s, 1, 0, 3)
	point(t, s, 4, 0, 6)
	if got := s.Collect([]int{2}); got != 3 {
		t.Errorf("Collect = %d, want 3: the other ring", got)
	}
	wantThere(t, s, 1, 2, 3)
	point(t, s, 3, 0, 3)
	if got := s.Collect([]int{3}); got != 2 {
		t.Errorf("Collect = %d, want 2: the ring was opened", got)
	}
	wantThere(t, s, 3)
	if got := s.Collect(nil); got != 1 {
		t.Errorf("Collect = %d, want 1", got)
	}
	wantThere(t, s)
}

func TestCollectTakesNumbersForNumbers(t *testing.T) {
	s := New(10)
	a, _ := s.Add(Blank([]int{api.Number}))
	b, _ := s.Add(Blank([]int{api.Number}))
	o, _ := s.Find(b)
	if err := o.SetNumber(0, a); err != nil {
		t.Error(err)
	}
	if got := s.Collect([]int{b}); got != 1 {
		t.Errorf("Collect = %d, want 1: a number is no reference", got)
	}
	wantThere(t, s, b)
}

func TestCollectLeavesTheListThatItIsGiven(t *testing.T) {
	s := chain(t, 4)
	wantPin(t, s, 2, nil)
	behind := []int{4, 77, 78, 79}
	s.Collect(behind[:1])
	if !slices.Equal(behind, []int{4, 77, 78, 79}) {
		t.Errorf("the list was written into: %v", behind)
	}
	wantThere(t, s, 1, 2, 3, 4)
}

func TestNumbersAreNotGivenAgain(t *testing.T) {
	s := chain(t, 3)
	s.Collect(nil)
	if got, err := s.Add(Blank(nil)); got != 4 || err != nil {
		t.Errorf("Add = %d, %v, want 4", got, err)
	}
}

func wantEnded(t *testing.T, s *Store, want ...int) {
	t.Helper()
	if got := s.Ended(); !slices.Equal(got, want) {
		t.Errorf("Ended() = %v, want %v", got, want)
	}
}

// named: a store of objects with these names; the numbers are from 1.
func named(t *testing.T, names ...int) *Store {
	t.Helper()
	s := New(len(names))
	for i, name := range names {
		if got, err := s.Add(Named(name)); got != i+1 || err != nil {
			t.Fatalf("Add = %d, %v, want %d", got, err, i+1)
		}
	}
	return s
}

func TestNamesAreToldCollectionByCollection(t *testing.T) {
	s := named(t, 9, 8, 7, 0, 0)
	if s.Room() != 5 {
		t.Errorf("room %d, want 5: a named object has no fields", s.Room())
	}
	wantEnded(t, s)
	s.Collect([]int{1, 4})
	s.Collect([]int{1, 4})
	s.Collect([]int{4})
	wantEnded(t, s, 8, 7, 0, 9)
	wantEnded(t, s)
	s.Collect(nil)
	wantEnded(t, s, 0)
}

// What waits is no more than the names that are to be told, in channels that are just as big and are closed.
func TestNoMoreIsKeptThanNames(t *testing.T) {
	s := named(t, 3, 2, 1)
	s.Add(Blank(nil))
	for range 100 {
		s.Collect([]int{1, 2, 3})
	}
	if len(s.ended) != 0 {
		t.Errorf("%d channels, want none: no name has ended", len(s.ended))
	}
	s.Add(Blank(nil))
	s.Collect([]int{2})
	if len(s.ended) != 1 || cap(s.ended[0]) != 2 || len(s.ended[0]) != 2 {
		t.Fatalf("channels %v, want one of two names", s.ended)
	}
	for _, want := range []int{3, 1} {
		if name, ok := <-s.ended[0]; name != want || !ok {
			t.Errorf("%d, %v in the channel, want %d", name, ok, want)
		}
	}
	if _, ok := <-s.ended[0]; ok {
		t.Error("the channel is not closed")
	}
	s.Ended()
	if len(s.ended) != 0 {
		t.Errorf("%d channels behind Ended, want none", len(s.ended))
	}
}
