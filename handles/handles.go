// Package handles keeps the tables of handles: which slots are taken, how often they were, and of which object.
package handles

import (
	"strconv"

	"trove/api"
)

// A handle is a kind, and slotStep times a slot, and generationStep times a generation.
const (
	slotStep       = 4
	generationStep = 256
	slotsToName    = generationStep / slotStep
)

// Bad is that a handle is of no object; it wraps the reason.
type Bad struct {
	Handle int
	Err    error
}

// Error tells the handle and the reason.
func (b *Bad) Error() string { return "handle " + strconv.Itoa(b.Handle) + ": " + b.Err.Error() }

// Unwrap gives the reason.
func (b *Bad) Unwrap() error { return b.Err }

// slot is free if its object is 0: objects are numbered from 1.
type slot struct {
	object     int
	generation int
}

// Tables are the slots of each kind of handle, by the kind. No kind is 0, so no slot is there either.
type Tables struct {
	slots [api.Weak + 1][]slot
}

// New makes tables of so many slots, all of them free.
func New(locals, globals, weaks int) *Tables {
	t := &Tables{}
	t.slots[api.Local] = make([]slot, locals)
	t.slots[api.Global] = make([]slot, globals)
	t.slots[api.Weak] = make([]slot, weaks)
	return t
}

// Vacant finds the slot that would be taken next. It is asked ahead of Take, so that a call can be refused before it changes anything.
func (t *Tables) Vacant(kind int) (int, error) {
	for i, s := range t.slots[kind] {
		if s.object == 0 && s.generation < api.MaxGeneration {
			return i, nil
		}
	}
	return 0, api.ErrTable
}

// Take lets a slot that Vacant found refer to an object, and gives its handle.
func (t *Tables) Take(kind, vacant, object int) int {
	s := &t.slots[kind][vacant]
	s.object = object
	s.generation++
	return kind + slotStep*vacant + generationStep*s.generation
}

// Object gives the number of the object that a handle is of, whether or not that object is still there.
func (t *Tables) Object(handle int) (int, error) {
	if handle == 0 {
		return 0, &Bad{handle, api.ErrNull}
	}
	if t.forged(handle) {
		return 0, &Bad{handle, api.ErrForged}
	}
	kind, place, generation := parts(handle)
	s := t.slots[kind][place]
	if s.object == 0 || s.generation != generation {
		return 0, &Bad{handle, api.ErrStale}
	}
	return s.object, nil
}

// Taken counts the slots of a kind that are not free.
func (t *Tables) Taken(kind int) int {
	n := 0
	for _, s := range t.slots[kind] {
		if s.object != 0 {
			n++
		}
	}
	return n
}

// forged tells whether a handle is one that no table of this size ever gives out.
func (t *Tables) forged(handle int) bool {
	if handle < 0 {
		return true
	}
	kind, place, generation := parts(handle)
	return kind == 0 || place >= len(t.slots[kind]) || generation < 1 || generation > api.MaxGeneration
}

// parts takes a handle that is not below 0 apart.
func parts(handle int) (kind, place, generation int) {
	return handle % slotStep, handle / slotStep % slotsToName, handle / generationStep
}
