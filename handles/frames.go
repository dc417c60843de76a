package handles

import (
	"slices"

	"trove/api"
)

// Frames tells how many frames there are.
func (t *Tables) Frames() int { return t.tables[api.Local].frames }

// Push begins one frame more, to which the local handles belong that are taken from now on.
func (t *Tables) Push() { t.tables[api.Local].frames++ }

// Pop ends the last frame and gives a local handle to this object, which belongs to the frame before it; 0 is nothing, and gives 0. The frame goes first, since its slots may be the only ones that can be taken; where even so there is none, it is put back as it was.
func (t *Tables) Pop(object int) (int, error) {
	before := t.tables[api.Local]
	t.tables[api.Local] = before.popped()
	if object == 0 {
		return 0, nil
	}
	vacant, err := t.Vacant(api.Local)
	if err != nil {
		t.tables[api.Local] = before
		return 0, err
	}
	return t.Take(api.Local, vacant, object), nil
}

// popped gives the table without its last frame. Its slots are copied, so that this one can be put back; freeing leaves generations as they are.
func (t table) popped() table {
	last := t.frames
	t.frames--
	t.slots = slices.Clone(t.slots)
	for i, s := range t.slots {
		if s.frame == last {
			clear(t.slots[i : i+1])
		}
	}
	return t
}
