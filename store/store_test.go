package store

import (
	"maps"
	"slices"
	"testing"

	"trove/api"
)

func TestObjectsAreNumberedInTheOrderOfTheirMaking(t *testing.T) {
	s := New(6)
	for want, kinds := range [][]int{{api.Number}, {api.Number, api.Reference}} {
		if got, err := s.Add(kinds); got != want+1 || err != nil {
			t.Errorf("Add = %d, %v, want %d", got, err, want+1)
		}
	}
	if got, err := s.Add([]int{api.Number}); got != 0 || err != api.ErrRoom {
		t.Errorf("Add without room = %d, %v", got, err)
	}
	if got, err := s.Add(nil); got != 3 || err != nil {
		t.Errorf("Add = %d, %v, want 3: a refused object has no number", got, err)
	}
	if s.Count() != 3 || s.Room() != 6 {
		t.Errorf("%d objects, room %d, want 3, 6", s.Count(), s.Room())
	}
}

func TestFindKnowsWhatIsThere(t *testing.T) {
	s := New(6)
	number, _ := s.Add([]int{api.Number})
	if o, ok := s.Find(number); !ok || o == nil {
		t.Errorf("Find(%d) = %v, %v", number, o, ok)
	}
	for _, absent := range []int{0, -1, number + 1} {
		if _, ok := s.Find(absent); ok {
			t.Errorf("Find(%d) finds an object", absent)
		}
	}
}

func TestAnObjectKeepsNothingOfItsKinds(t *testing.T) {
	s := New(6)
	kinds := []int{api.Number, api.Reference}
	number, _ := s.Add(kinds)
	kinds[0], kinds[1] = api.Reference, api.Number
	o, _ := s.Find(number)
	if err := o.SetNumber(0, 4); err != nil {
		t.Errorf("SetNumber: %v", err)
	}
	if v, err := o.Number(0); v != 4 || err != nil {
		t.Errorf("Number(0) = %d, %v, want 4", v, err)
	}
	if v, err := o.Number(1); v != 0 || err != api.ErrField {
		t.Errorf("Number(1) = %d, %v, want ErrField", v, err)
	}
	if err := o.SetNumber(1, 4); err != api.ErrField {
		t.Errorf("SetNumber(1): %v, want ErrField", err)
	}
}

// chain: an object that refers to the one before it, so many times; the numbers are 1 to n.
func chain(t *testing.T, n int) *Store {
	t.Helper()
	s := New(2 * n)
	for before := range n {
		number, err := s.Add([]int{api.Reference})
		if err != nil || number != before+1 {
			t.Fatalf("Add = %d, %v", number, err)
		}
		point(t, s, number, 0, before)
	}
	return s
}

func point(t *testing.T, s *Store, number, i, to int) {
	t.Helper()
	o, _ := s.Find(number)
	if err := o.SetReference(i, to); err != nil {
		t.Errorf("SetReference(%d) of %d: %v", i, number, err)
	}
	if got, err := o.Reference(i); got != to || err != nil {
		t.Errorf("Reference(%d) of %d = %d, %v, want %d", i, number, got, err, to)
	}
}

func wantThere(t *testing.T, s *Store, want ...int) {
	t.Helper()
	if got := slices.Sorted(maps.Keys(s.objects)); !slices.Equal(got, want) {
		t.Errorf("objects %v, want %v", got, want)
	}
}

func TestCollectKeepsWhatIsReached(t *testing.T) {
	for root, want := range map[int][]int{0: nil, 1: {1}, 3: {1, 2, 3}, 5: {1, 2, 3, 4, 5}} {
		s := chain(t, 5)
		from := []int{}
		if root != 0 {
			from = []int{root, root}
		}
		if got := s.Collect(from); got != 5-len(want) {
			t.Errorf("Collect(%v) = %d, want %d", from, got, 5-len(want))
		}
		wantThere(t, s, want...)
		if s.Count() != len(want) || s.Room() != 2*len(want) {
			t.Errorf("%d objects, room %d, want %d, %d", s.Count(), s.Room(), len(want), 2*len(want))
		}
		if got := s.Collect(from); got != 0 {
			t.Errorf("Collect once more = %d", got)
		}
	}
}

func TestCollectGoesRoundARingOnce(t *testing.T) {
	s := chain(t, 6)
	point(t, s, 1, 0, 3)
	point(t, s, 4, 0, 6)
	if got := s.Collect([]int{2}); got != 3 {
		t.Errorf("Collect = %d, want 3: the other ring", got)
	}
	wantThere(t, s, 1, 2, 3)
	point(t, s, 3, 0, 3)
	if got := s.Collect([]int{3}); got != 2 {
		t.Errorf("Collect = %d, want 2: the ring was opened", got)
	}
	wantThere(t, s, 3)
	if got := s.Collect(nil); got != 1 {
		t.Errorf("Collect = %d, want 1", got)
	}
	wantThere(t, s)
}

func TestCollectTakesNumbersForNumbers(t *testing.T) {
	s := New(10)
	a, _ := s.Add([]int{api.Number})
	b, _ := s.Add([]int{api.Number})
	o, _ := s.Find(b)
	if err := o.SetNumber(0, a); err != nil {
		t.Error(err)
	}
	if got := s.Collect([]int{b}); got != 1 {
		t.Errorf("Collect = %d, want 1: a number is no reference", got)
	}
	wantThere(t, s, b)
}

func TestCollectLeavesTheListThatItIsGiven(t *testing.T) {
	s := chain(t, 4)
	behind := []int{4, 77, 78, 79}
	s.Collect(behind[:1])
	if !slices.Equal(behind, []int{4, 77, 78, 79}) {
		t.Errorf("the list was written into: %v", behind)
	}
	wantThere(t, s, 1, 2, 3, 4)
}

func TestNumbersAreNotGivenAgain(t *testing.T) {
	s := chain(t, 3)
	s.Collect(nil)
	if got, err := s.Add(nil); got != 4 || err != nil {
		t.Errorf("Add = %d, %v, want 4", got, err)
	}
}
