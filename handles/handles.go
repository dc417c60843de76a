// Package handles keeps the tables of handles: which slots are taken, how often they were, and of which object.
package handles

import (
	"strconv"

	"trove/api"
)

// A handle is a kind, and slotStep times a slot, and generationStep times a generation.
const (
	slotStep       = 4
	generationStep = 256
	slotsToName    = generationStep / slotStep
)

// Bad is that a handle is of no object; it wraps the reason.
type Bad struct {
	Handle int
	Err    error
}

// Error tells the handle and the reason.
func (b *Bad) Error() string { return "handle " + strconv.Itoa(b.Handle) + ": " + b.Err.Error() }

// Unwrap gives the reason.
func (b *Bad) Unwrap() error { return b.Err }

// table is the slots of one kind of handle. What they refer to stands apart from their generations, which outlive it: so a slot that is freed can be cleared.
type table struct {
	objects     []int // 0 where a slot is free: objects are numbered from 1
	generations []int
}

// Tables are the tables of handles, by their kind. No kind is 0, so no slot is there either.
type Tables struct {
	tables [api.Weak + 1]table
}

// New makes tables of so many slots, all of them free.
func New(locals, globals, weaks int) *Tables {
	t := &Tables{}
	t.tables[api.Local] = blank(locals)
	t.tables[api.Global] = blank(globals)
	t.tables[api.Weak] = blank(weaks)
	return t
}

func blank(slots int) table {
	return table{objects: make([]int, slots), generations: make([]int, slots)}
}

// Vacant finds the slot that would be taken next. It is asked ahead of Take, so that a call can be refused before it changes anything.
func (t *Tables) Vacant(kind int) (int, error) {
	of := &t.tables[kind]
	for slot, object := range of.objects {
		if object == 0 && of.generations[slot] < api.MaxGeneration {
			return slot, nil
		}
	}
	return 0, api.ErrTable
}

// Take lets a slot that Vacant found refer to an object, and gives its handle.
func (t *Tables) Take(kind, vacant, object int) int {
	of := &t.tables[kind]
	of.objects[vacant] = object
	of.generations[vacant]++
	return kind + slotStep*vacant + generationStep*of.generations[vacant]
}

// Object gives the number of the object that a handle is of, whether or not that object is still there.
func (t *Tables) Object(handle int) (int, error) {
	if handle == 0 {
		return 0, &Bad{handle, api.ErrNull}
	}
	if t.forged(handle) {
		return 0, &Bad{handle, api.ErrForged}
	}
	kind, slot, generation := parts(handle)
	object := t.tables[kind].objects[slot]
	if object == 0 || t.tables[kind].generations[slot] != generation {
		return 0, &Bad{handle, api.ErrStale}
	}
	return object, nil
}

// Free frees a handle's slot, whether or not its object is still there.
func (t *Tables) Free(handle int) error {
	if _, err := t.Object(handle); err != nil {
		return err
	}
	kind, slot, _ := parts(handle)
	clear(t.tables[kind].objects[slot : slot+1])
	return nil
}

// Held gives the numbers of the objects that the taken slots of a kind refer to, slot by slot.
func (t *Tables) Held(kind int) []int {
	held := []int{}
	for _, object := range t.tables[kind].objects {
		if object != 0 {
			held = append(held, object)
		}
	}
	return held
}

// Taken counts the slots of a kind that are not free.
func (t *Tables) Taken(kind int) int { return len(t.Held(kind)) }

// forged tells whether a handle is one that no table of this size ever gives out.
func (t *Tables) forged(handle int) bool {
	if handle < 0 {
		return true
	}
	kind, slot, generation := parts(handle)
	return kind == 0 || slot >= len(t.tables[kind].objects) || generation < 1 || generation > api.MaxGeneration
}

// parts takes a handle that is not below 0 apart.
func parts(handle int) (kind, slot, generation int) {
	return handle % slotStep, handle / slotStep % slotsToName, handle / generationStep
}
