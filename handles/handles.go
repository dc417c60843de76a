// Package handles keeps the tables of handles: which slots are taken, how often they were, of which object, and in which frame.
package handles

import (
	"strconv"

	"trove/api"
)

// A handle is a kind, and slotStep times a slot, and generationStep times a generation.
const (
	slotStep       = 4
	generationStep = 256
	slotsToName    = generationStep / slotStep
)

// Bad is that a handle is of no object; it wraps the reason.
type Bad struct {
	Handle int
	Err    error
}

// Error tells the handle and the reason.
func (b *Bad) Error() string { return "handle " + strconv.Itoa(b.Handle) + ": " + b.Err.Error() }

// Unwrap gives the reason.
func (b *Bad) Unwrap() error { return b.Err }

// slot is free if it is blank, for objects and frames are numbered from 1. The frame is the one to which its handle belongs.
type slot struct {
	object int
	frame  int
}

// table is the slots of one kind of handle, and how many frames they are of. Generations stand apart from the slots, which they outlive: so a slot that is freed can be cleared.
type table struct {
	slots       []slot
	generations []int
	frames      int // more than one of local handles alone: no others belong to a frame that can end
}

// Tables are the tables of handles, by their kind. No kind is 0, so no slot is there either.
type Tables struct {
	tables [api.Weak + 1]table
}

// New makes tables of so many slots, all of them free, with one frame.
func New(locals, globals, weaks int) *Tables {
	t := &Tables{}
	t.tables[api.Local] = blank(locals)
	t.tables[api.Global] = blank(globals)
	t.tables[api.Weak] = blank(weaks)
	return t
}

func blank(slots int) table {
	return table{slots: make([]slot, slots), generations: make([]int, slots), frames: 1}
}

// Vacant finds the slot that would be taken next. It is asked ahead of Take, so that a call can be refused before it changes anything.
func (t *Tables) Vacant(kind int) (int, error) {
	of := &t.tables[kind]
	for i, s := range of.slots {
		if s.object == 0 && of.generations[i] < api.MaxGeneration {
			return i, nil
		}
	}
	return 0, api.ErrTable
}

// Take lets a slot that Vacant found refer to an object, and gives its handle, which belongs to the last frame.
func (t *Tables) Take(kind, vacant, object int) int {
	of := &t.tables[kind]
	of.slots[vacant] = slot{object: object, frame: of.frames}
	of.generations[vacant]++
	return kind + slotStep*vacant + generationStep*of.generations[vacant]
}

// Object gives the number of the object that a handle is of, whether or not that object is still there.
func (t *Tables) Object(handle int) (int, error) {
	if handle == 0 {
		return 0, &Bad{handle, api.ErrNull}
	}
	if t.forged(handle) {
		return 0, &Bad{handle, api.ErrForged}
	}
	kind, i, generation := parts(handle)
	object := t.tables[kind].slots[i].object
	if object == 0 || t.tables[kind].generations[i] != generation {
		return 0, &Bad{handle, api.ErrStale}
	}
	return object, nil
}

// Free frees a handle's slot, whether or not its object is still there.
func (t *Tables) Free(handle int) error {
	if _, err := t.Object(handle); err != nil {
		return err
	}
	kind, i, _ := parts(handle)
	clear(t.tables[kind].slots[i : i+1])
	return nil
}

// Held gives the numbers of the objects that the taken slots of a kind refer to, slot by slot.
func (t *Tables) Held(kind int) []int {
	held := []int{}
	for _, s := range t.tables[kind].slots {
		if s.object != 0 {
			held = append(held, s.object)
		}
	}
	return held
}

// Taken counts the slots of a kind that are not free.
func (t *Tables) Taken(kind int) int { return len(t.Held(kind)) }

// forged tells whether a handle is one that no table of this size ever gives out.
func (t *Tables) forged(handle int) bool {
	if handle < 0 {
		return true
	}
	kind, i, generation := parts(handle)
	return kind == 0 || i >= len(t.tables[kind].slots) || generation < 1 || generation > api.MaxGeneration
}

// parts takes a handle that is not below 0 apart: its kind, its slot's number, and its generation.
func parts(handle int) (kind, i, generation int) {
	return handle % slotStep, handle / slotStep % slotsToName, handle / generationStep
}
