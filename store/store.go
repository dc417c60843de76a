// Package store keeps the objects that are there, by their numbers, reckons their room, and tells the names of those that have ended.
package store

import (
	"maps"
	"slices"

	"trove/api"
)

// field is a number, or a reference: then its value is an object's number, or 0 for nothing.
type field struct {
	kind  int
	value int
}

// Object is fields, and pins, which hold it fast. If it is named, its end is told by its name; every number from 0 may be one, so none can stand for no name.
type Object struct {
	fields []field
	pins   int
	named  bool
	name   int
}

// Store is the objects that are there. They are numbered from 1, so that 0 can stand for nothing. The names of those that have ended wait in channels, one a collection, until they are asked for.
type Store struct {
	limit   int
	made    int
	objects map[int]*Object
	ended   []<-chan int
}

// Blank makes an object with fields of these kinds: numbers are 0, references are to nothing.
func Blank(kinds []int) *Object {
	o := &Object{fields: make([]field, len(kinds))}
	for i, kind := range kinds {
		o.fields[i].kind = kind
	}
	return o
}

// Named makes an object without fields whose end is told by this name.
func Named(name int) *Object { return &Object{named: true, name: name} }

// New makes a store without objects that has so much room.
func New(limit int) *Store {
	return &Store{limit: limit, objects: map[int]*Object{}}
}

// Add puts an object in, if there is room for it, and gives its number.
func (s *Store) Add(o *Object) (int, error) {
	if s.granted(o.room()) < o.room() {
		return 0, api.ErrRoom
	}
	s.made++
	s.objects[s.made] = o
	return s.made, nil
}

// Find gives an object, if it is there.
func (s *Store) Find(number int) (*Object, bool) {
	o, ok := s.objects[number]
	return o, ok
}

// Count tells how many objects there are.
func (s *Store) Count() int { return len(s.objects) }

// Room tells how much room the objects take together.
func (s *Store) Room() int {
	sum := 0
	for _, o := range s.objects {
		sum += o.room()
	}
	return sum
}

// granted is as much of the room that is wanted as is left.
func (s *Store) granted(wanted int) int { return min(wanted, max(s.limit-s.Room(), 0)) }

// Collect ends all objects to which nobody comes from these, nor from what has pins, and tells how many. Without names among them nothing is kept for Ended, so that it does not grow with collections that have nothing to tell.
func (s *Store) Collect(from []int) int {
	gone := s.missed(from)
	if names := s.names(gone); len(names) > 0 {
		s.ended = append(s.ended, sent(names))
	}
	for _, number := range gone {
		delete(s.objects, number)
	}
	return len(gone)
}

// missed finds the numbers of all objects to which nobody comes from these, nor from what has pins. They are sorted, since names are told by them.
func (s *Store) missed(from []int) []int {
	come := s.reached(slices.Concat(from, s.pinned()))
	return slices.DeleteFunc(slices.Sorted(maps.Keys(s.objects)), func(number int) bool {
		_, ok := come[number]
		return ok
	})
}

// reached finds all objects to which somebody comes from these. It goes by a list and not by calling itself, so that rings end and long chains do no harm.
func (s *Store) reached(from []int) map[int]struct{} {
	come := map[int]struct{}{}
	ahead := slices.Clone(from)
	for len(ahead) > 0 {
		last := len(ahead) - 1
		number := ahead[last]
		ahead = ahead[:last]
		if _, seen := come[number]; seen {
			continue
		}
		come[number] = struct{}{}
		ahead = append(ahead, s.objects[number].references()...)
	}
	return come
}

// Number reads a number.
func (o *Object) Number(i int) (int, error) {
	f, err := o.field(i, api.Number)
	if err != nil {
		return 0, err
	}
	return f.value, nil
}

// SetNumber writes a number.
func (o *Object) SetNumber(i, v int) error {
	f, err := o.field(i, api.Number)
	if err != nil {
		return err
	}
	f.value = v
	return nil
}

// Reference tells the number of the object that a reference is to, or 0.
func (o *Object) Reference(i int) (int, error) {
	f, err := o.field(i, api.Reference)
	if err != nil {
		return 0, err
	}
	return f.value, nil
}

// SetReference lets a reference be to an object, or to nothing if its number is 0.
func (o *Object) SetReference(i, number int) error {
	f, err := o.field(i, api.Reference)
	if err != nil {
		return err
	}
	f.value = number
	return nil
}

// references are the numbers of all objects to which this one refers.
func (o *Object) references() []int {
	to := []int{}
	for _, f := range o.fields {
		if f.kind == api.Reference && f.value != 0 {
			to = append(to, f.value)
		}
	}
	return to
}

// room is one more than the fields, so that an object without fields takes some, too.
func (o *Object) room() int { return len(o.fields) + 1 }

func (o *Object) field(i, kind int) (*field, error) {
	if i < 0 || i >= len(o.fields) || o.fields[i].kind != kind {
		return nil, api.ErrField
	}
	return &o.fields[i], nil
}
