// Package trove: objects that are there as long as somebody can come to them: see DOC.md.
package trove

import (
	"errors"
	"slices"

	"trove/api"
	"trove/handles"
	"trove/store"
)

// Heap is objects, and handles to them.
type Heap struct {
	classes [][]int
	objects *store.Store
	handles *handles.Tables
}

// New makes a heap (P2).
func New(c api.Config) (*Heap, error) {
	if !fits(c) {
		return nil, refusal(api.ErrArg)
	}
	return &Heap{
		classes: copied(c.Classes),
		objects: store.New(c.Room),
		handles: handles.New(c.Locals, c.Globals, c.Weaks),
	}, nil
}

// Make makes an object of a class (P5).
func (h *Heap) Make(class int) (int, error) {
	if !within(class, 0, len(h.classes)-1) {
		return 0, refusal(api.ErrArg)
	}
	return h.add(store.Blank(h.classes[class]))
}

// Array makes an array of so many elements of a kind (P5).
func (h *Heap) Array(kind int, n int) (int, error) {
	if badKind(kind) || !within(n, 0, api.MaxElements) {
		return 0, refusal(api.ErrArg)
	}
	return h.add(store.Blank(slices.Repeat([]int{kind}, n)))
}

// Extern makes an object whose end is told (P5).
func (h *Heap) Extern(name int) (int, error) {
	if !within(name, 0, api.MaxValue) {
		return 0, refusal(api.ErrArg)
	}
	return h.add(store.Named(name))
}

// Get reads a number of an object (P6).
func (h *Heap) Get(handle int, i int) (int, error) {
	o, err := h.object(handle)
	if err != nil {
		return 0, refusal(err)
	}
	v, err := o.Number(i)
	return v, refusal(err)
}

// Set writes a number of an object (P6).
func (h *Heap) Set(handle int, i int, v int) error {
	o, err := h.object(handle)
	if err != nil {
		return refusal(err)
	}
	if !within(v, -api.MaxValue, api.MaxValue) {
		return refusal(api.ErrArg)
	}
	return refusal(o.SetNumber(i, v))
}

// Follow gives a handle to what a reference of an object refers to (P6).
func (h *Heap) Follow(handle int, i int) (int, error) {
	o, err := h.object(handle)
	if err != nil {
		return 0, refusal(err)
	}
	to, err := o.Reference(i)
	if err != nil || to == 0 {
		return 0, refusal(err)
	}
	return h.take(api.Local, to)
}

// Point lets a reference of an object refer to another (P6).
func (h *Heap) Point(handle int, i int, to int) error {
	o, err := h.object(handle)
	if err != nil {
		return refusal(err)
	}
	number, err := h.numberOrNothing(to)
	if err != nil {
		return refusal(err)
	}
	return refusal(o.SetReference(i, number))
}

// Same tells whether two handles are of one object (P7).
func (h *Heap) Same(a int, b int) (bool, error) {
	first, err := h.numberOrNothing(a)
	if err != nil {
		return false, refusal(err)
	}
	second, err := h.numberOrNothing(b)
	if err != nil {
		return false, refusal(err)
	}
	return first == second, nil
}

// Ref gives one handle more of a kind to an object (P7).
func (h *Heap) Ref(kind int, handle int) (int, error) {
	if !within(kind, api.Local, api.Weak) {
		return 0, refusal(api.ErrArg)
	}
	number, err := h.number(handle)
	if err != nil {
		return 0, refusal(err)
	}
	return h.take(kind, number)
}

// Free takes a handle back (P7). The tables alone are asked: a handle whose object has ended can be freed, too.
func (h *Heap) Free(handle int) error { return refusal(h.handles.Free(handle)) }

// Push begins a frame (P8).
func (h *Heap) Push() error {
	if h.handles.Frames() == api.MaxFrames {
		return refusal(api.ErrFrame)
	}
	h.handles.Push()
	return nil
}

// Pop ends a frame; one object comes out of it (P8).
func (h *Heap) Pop(handle int) (int, error) {
	if h.handles.Frames() == 1 {
		return 0, refusal(api.ErrFrame)
	}
	number, err := h.numberOrNothing(handle)
	if err != nil {
		return 0, refusal(err)
	}
	out, err := h.handles.Pop(number)
	return out, refusal(err)
}

// Pin holds an object fast (P9).
func (h *Heap) Pin(handle int) error {
	o, err := h.object(handle)
	if err != nil {
		return refusal(err)
	}
	return refusal(o.Pin())
}

// Unpin lets it go (P9).
func (h *Heap) Unpin(handle int) error {
	o, err := h.object(handle)
	if err != nil {
		return refusal(err)
	}
	return refusal(o.Unpin())
}

// Collect lets go what nobody can come to; how many objects (P10).
func (h *Heap) Collect() int {
	return h.objects.Collect(slices.Concat(h.handles.Held(api.Local), h.handles.Held(api.Global)))
}

// Ended tells the names of objects that have ended since it was asked last (P11).
func (h *Heap) Ended() []int { return h.objects.Ended() }

// Stats tells how many objects there are, how much room they take, how many slots of each kind are taken, and how many frames there are (P11).
func (h *Heap) Stats() [6]int {
	return [6]int{
		h.objects.Count(),
		h.objects.Room(),
		h.handles.Taken(api.Local),
		h.handles.Taken(api.Global),
		h.handles.Taken(api.Weak),
		h.handles.Frames(),
	}
}

// add puts an object in and gives a local handle to it. The slot is looked for first: without one nothing is made, and nothing is collected.
func (h *Heap) add(o *store.Object) (int, error) {
	vacant, err := h.handles.Vacant(api.Local)
	if err != nil {
		return 0, refusal(err)
	}
	number, err := h.objects.Add(o)
	if errors.Is(err, api.ErrRoom) {
		h.Collect()
		number, err = h.objects.Add(o)
	}
	if err != nil {
		return 0, refusal(err)
	}
	return h.handles.Take(api.Local, vacant, number), nil
}

// take gives one handle more of a kind to an object.
func (h *Heap) take(kind, number int) (int, error) {
	vacant, err := h.handles.Vacant(kind)
	if err != nil {
		return 0, refusal(err)
	}
	return h.handles.Take(kind, vacant, number), nil
}

// number gives the number of the object that a handle is of (P3). Only a weak handle can outlive its object.
func (h *Heap) number(handle int) (int, error) {
	number, err := h.handles.Object(handle)
	if err != nil {
		return 0, err
	}
	if _, there := h.objects.Find(number); !there {
		return 0, &handles.Bad{Handle: handle, Err: api.ErrCleared}
	}
	return number, nil
}

// numberOrNothing takes 0 for a good handle, too: that of nothing.
func (h *Heap) numberOrNothing(handle int) (int, error) {
	if handle == 0 {
		return 0, nil
	}
	return h.number(handle)
}

// object gives the object that a handle is of (P3).
func (h *Heap) object(handle int) (*store.Object, error) {
	number, err := h.number(handle)
	if err != nil {
		return nil, err
	}
	o, _ := h.objects.Find(number)
	return o, nil
}
