package trove_test

import (
	"fmt"
	"math"
	"math/rand/v2"
	"slices"
	"testing"

	"trove/api"
	"trove/trove"
)

// thing is an object as the document speaks of it.
type thing struct {
	kinds   []int
	numbers []int
	to      []*thing
	names   []int // one, if it was made by Extern
	pins    int
	ended   bool
}

// place is a slot: free if it is of nothing; else its handle belongs to this frame.
type place struct {
	of         *thing
	generation int
	frame      int
}

// model answers the calls by the document's words, in the plainest way, to be held against the program.
type model struct {
	config api.Config
	tables map[int][]place
	things []*thing
	names  []int
	frames int
}

// told is what a call tells: a number, a truth or a list (written out), or why not and of which handle.
type told struct {
	number int
	truth  bool
	list   string
	reason error
	handle int
}

func newModel(c api.Config) *model {
	return &model{config: c, frames: 1, tables: map[int][]place{
		api.Local: make([]place, c.Locals), api.Global: make([]place, c.Globals), api.Weak: make([]place, c.Weaks),
	}}
}

// find: the thing that a handle is of, and its slot; handles are built up, not taken apart.
func (m *model) find(handle int) (*thing, *place, told) {
	if handle == 0 {
		return nil, nil, told{reason: api.ErrNull}
	}
	for kind, places := range m.tables {
		for i := range places {
			at := &places[i]
			for generation := 1; generation <= api.MaxGeneration; generation++ {
				switch {
				case handle != kind+4*i+256*generation:
				case at.of == nil || at.generation != generation:
					return nil, nil, told{reason: api.ErrStale, handle: handle}
				case at.of.ended:
					return nil, at, told{reason: api.ErrCleared, handle: handle}
				default:
					return at.of, at, told{}
				}
			}
		}
	}
	return nil, nil, told{reason: api.ErrForged, handle: handle}
}

// vacant: the slot that would be taken, or -1.
func (m *model) vacant(kind int) int {
	return slices.IndexFunc(m.tables[kind], func(p place) bool { return p.of == nil && p.generation < api.MaxGeneration })
}

func (m *model) take(kind int, of *thing) told {
	i := m.vacant(kind)
	if i < 0 {
		return told{reason: api.ErrTable}
	}
	generation := m.tables[kind][i].generation + 1
	m.tables[kind][i] = place{of, generation, m.frames}
	return told{number: kind + 4*i + 256*generation}
}

func (m *model) room() int {
	sum := 0
	for _, o := range m.things {
		sum += 1 + len(o.kinds)
	}
	return sum
}

// collect goes over all things again and again, until no more of them are come to.
func (m *model) collect() told {
	come := map[*thing]bool{}
	for _, kind := range []int{api.Local, api.Global} {
		for _, p := range m.tables[kind] {
			if p.of != nil {
				come[p.of] = true
			}
		}
	}
	for _, o := range m.things {
		if o.pins > 0 {
			come[o] = true
		}
	}
	for n := -1; n != len(come); {
		n = len(come)
		for _, o := range m.things {
			for _, to := range o.to {
				if come[o] && to != nil {
					come[to] = true
				}
			}
		}
	}
	left := []*thing{}
	n := 0
	for _, o := range m.things {
		if come[o] {
			left = append(left, o)
			continue
		}
		n++
		o.ended = true
		m.names = append(m.names, o.names...)
	}
	m.things = left
	return told{number: n}
}

func (m *model) ended() told {
	list := fmt.Sprint(m.names)
	m.names = nil
	return told{list: list}
}

func (m *model) add(kinds []int, names ...int) told {
	if m.vacant(api.Local) < 0 {
		return told{reason: api.ErrTable}
	}
	if m.room()+len(kinds)+1 > m.config.Room {
		m.collect()
	}
	if m.room()+len(kinds)+1 > m.config.Room {
		return told{reason: api.ErrRoom}
	}
	o := &thing{kinds: kinds, names: names, numbers: make([]int, len(kinds)), to: make([]*thing, len(kinds))}
	m.things = append(m.things, o)
	return m.take(api.Local, o)
}

func (m *model) make(class int) told {
	if class < 0 || class >= len(m.config.Classes) {
		return told{reason: api.ErrArg}
	}
	return m.add(m.config.Classes[class])
}

func (m *model) array(kind, n int) told {
	if kind != api.Number && kind != api.Reference || n < 0 || n > api.MaxElements {
		return told{reason: api.ErrArg}
	}
	return m.add(slices.Repeat([]int{kind}, n))
}

func (m *model) extern(name int) told {
	if name < 0 || name > api.MaxValue {
		return told{reason: api.ErrArg}
	}
	return m.add(nil, name)
}

func (o *thing) has(i, kind int) bool { return i >= 0 && i < len(o.kinds) && o.kinds[i] == kind }

func (m *model) get(handle, i int) told {
	o, _, no := m.find(handle)
	switch {
	case no.reason != nil:
		return no
	case !o.has(i, api.Number):
		return told{reason: api.ErrField}
	}
	return told{number: o.numbers[i]}
}

func (m *model) set(handle, i, v int) told {
	o, _, no := m.find(handle)
	switch {
	case no.reason != nil:
		return no
	case v < -api.MaxValue || v > api.MaxValue:
		return told{reason: api.ErrArg}
	case !o.has(i, api.Number):
		return told{reason: api.ErrField}
	}
	o.numbers[i] = v
	return told{}
}

func (m *model) follow(handle, i int) told {
	o, _, no := m.find(handle)
	switch {
	case no.reason != nil:
		return no
	case !o.has(i, api.Reference):
		return told{reason: api.ErrField}
	case o.to[i] == nil:
		return told{}
	}
	return m.take(api.Local, o.to[i])
}

func (m *model) point(handle, i, to int) told {
	o, _, no := m.find(handle)
	if no.reason != nil {
		return no
	}
	other, _, no := m.find(to)
	switch {
	case to != 0 && no.reason != nil:
		return no
	case !o.has(i, api.Reference):
		return told{reason: api.ErrField}
	}
	o.to[i] = other
	return told{}
}

func (m *model) same(a, b int) told {
	first, _, no := m.find(a)
	if a != 0 && no.reason != nil {
		return no
	}
	second, _, no := m.find(b)
	if b != 0 && no.reason != nil {
		return no
	}
	return told{truth: first == second}
}

func (m *model) ref(kind, handle int) told {
	if kind < 1 || kind > 3 {
		return told{reason: api.ErrArg}
	}
	o, _, no := m.find(handle)
	if no.reason != nil {
		return no
	}
	return m.take(kind, o)
}

func (m *model) free(handle int) told {
	_, at, no := m.find(handle)
	if at == nil {
		return no
	}
	at.of = nil
	return told{}
}

func (m *model) push() told {
	if m.frames == api.MaxFrames {
		return told{reason: api.ErrFrame}
	}
	m.frames++
	return told{}
}

func (m *model) pop(handle int) told {
	if m.frames == 1 {
		return told{reason: api.ErrFrame}
	}
	o, _, no := m.find(handle)
	if handle != 0 && no.reason != nil {
		return no
	}
	before := slices.Clone(m.tables[api.Local])
	for i, p := range before {
		if p.frame == m.frames {
			m.tables[api.Local][i].of = nil
		}
	}
	m.frames--
	if handle == 0 {
		return told{}
	}
	out := m.take(api.Local, o)
	if out.reason != nil {
		m.tables[api.Local] = before
		m.frames++
	}
	return out
}

// pin gives an object so many pins more: one, or one less.
func (m *model) pin(handle, more int) told {
	o, _, no := m.find(handle)
	switch {
	case no.reason != nil:
		return no
	case o.pins+more < 0 || o.pins+more > api.MaxPins:
		return told{reason: api.ErrPin}
	}
	o.pins += more
	return told{}
}

// taken: the handles of all slots that are not free.
func (m *model) taken() []int {
	all := []int{}
	for _, kind := range []int{api.Local, api.Global, api.Weak} {
		for i, p := range m.tables[kind] {
			if p.of != nil {
				all = append(all, kind+4*i+256*p.generation)
			}
		}
	}
	return all
}

func (m *model) stats() [6]int {
	s := [6]int{len(m.things), m.room(), 0, 0, 0, m.frames}
	for kind, places := range m.tables {
		for _, p := range places {
			if p.of != nil {
				s[1+kind]++
			}
		}
	}
	return s
}

// tells: what the program told.
func tells(t *testing.T, number int, truth bool, err error) told {
	t.Helper()
	if err == nil {
		return told{number: number, truth: truth}
	}
	fault, ok := err.(*api.Fault)
	if !ok {
		t.Fatalf("error %v (%T), want a fault", err, err)
	}
	return told{number: number, truth: truth, reason: fault.Err, handle: fault.Handle}
}

// walk is a row of calls, made of a heap and of its model alike.
type walk struct {
	*testing.T
	random *rand.Rand
	heap   *trove.Heap
	model  *model
	given  []int
}

// number: mostly a small one, sometimes one that is just or far outside.
func (w *walk) number(n int) int {
	switch w.random.IntN(40) {
	case 0:
		return -1
	case 1:
		return n
	case 2:
		return []int{math.MinInt, math.MaxInt, 1 << 32}[w.random.IntN(3)]
	}
	return w.random.IntN(n)
}

// handle: mostly one that was not freed, sometimes any that was given out, nothing, or one that none was.
func (w *walk) handle() int {
	taken := w.model.taken()
	switch k := w.random.IntN(20); {
	case k == 0 || len(w.given) == 0:
		return 0
	case k == 1:
		return w.random.IntN(256*(api.MaxGeneration+2)) - 256
	case k == 2:
		return w.given[w.random.IntN(len(w.given))] + []int{4, -4, 1, -1, 256, 1 << 32, math.MinInt}[w.random.IntN(7)]
	case k == 3 || len(taken) == 0:
		return w.given[w.random.IntN(len(w.given))]
	}
	return taken[w.random.IntN(len(taken))]
}

// value: one that may be, up to the bounds, or one just outside.
func (w *walk) value() int {
	return []int{0, 1, 257, -7, api.MaxValue, -api.MaxValue, api.MaxValue + 1, -api.MaxValue - 1}[w.random.IntN(8)]
}

// call makes one call of both, and tells its name and both answers.
func (w *walk) call() (name string, got, want told) {
	h, m := w.heap, w.model
	handle, i := w.handle(), w.number(3)
	switch k := w.random.IntN(32); {
	case k < 4:
		class := w.number(3)
		number, err := h.Make(class)
		return "Make", tells(w.T, number, false, err), m.make(class)
	case k < 6:
		kind, n := w.number(3), w.number(8)
		number, err := h.Array(kind, n)
		return "Array", tells(w.T, number, false, err), m.array(kind, n)
	case k < 7:
		number, err := h.Get(handle, i)
		return "Get", tells(w.T, number, false, err), m.get(handle, i)
	case k < 8:
		v := w.value()
		return "Set", tells(w.T, 0, false, h.Set(handle, i, v)), m.set(handle, i, v)
	case k < 10:
		number, err := h.Follow(handle, i)
		return "Follow", tells(w.T, number, false, err), m.follow(handle, i)
	case k < 14:
		to := w.handle()
		return "Point", tells(w.T, 0, false, h.Point(handle, i, to)), m.point(handle, i, to)
	case k < 15:
		b := w.handle()
		truth, err := h.Same(handle, b)
		return "Same", tells(w.T, 0, truth, err), m.same(handle, b)
	case k < 17:
		kind := w.number(4)
		number, err := h.Ref(kind, handle)
		return "Ref", tells(w.T, number, false, err), m.ref(kind, handle)
	case k < 21:
		return "Free", tells(w.T, 0, false, h.Free(handle)), m.free(handle)
	case k < 26:
		return w.callOfNames()
	}
	return w.callOfFrames(handle)
}

func (w *walk) callOfNames() (name string, got, want told) {
	h, m := w.heap, w.model
	switch w.random.IntN(5) {
	case 0:
		return "Collect", told{number: h.Collect()}, m.collect()
	case 1:
		return "Ended", told{list: fmt.Sprint(h.Ended())}, m.ended()
	}
	v := w.value()
	number, err := h.Extern(v)
	return "Extern", tells(w.T, number, false, err), m.extern(v)
}

func (w *walk) callOfFrames(handle int) (name string, got, want told) {
	h, m := w.heap, w.model
	switch w.random.IntN(6) {
	case 0, 1:
		return "Push", tells(w.T, 0, false, h.Push()), m.push()
	case 2:
		return "Pin", tells(w.T, 0, false, h.Pin(handle)), m.pin(handle, 1)
	case 3:
		return "Unpin", tells(w.T, 0, false, h.Unpin(handle)), m.pin(handle, -1)
	}
	number, err := h.Pop(handle)
	return "Pop", tells(w.T, number, false, err), m.pop(handle)
}

// step makes a call and holds all that can be seen against the model.
func (w *walk) step(n int) {
	name, got, want := w.call()
	if got != want {
		w.Fatalf("call %d, %s: %+v, want %+v", n, name, got, want)
	}
	if got.reason == nil && got.number != 0 && slices.Contains([]string{"Make", "Array", "Extern", "Follow", "Ref", "Pop"}, name) {
		if slices.Contains(w.given, got.number) {
			w.Fatalf("call %d, %s: P12: handle %d is given out again", n, name, got.number)
		}
		w.given = append(w.given, got.number)
	}
	if got, want := w.heap.Stats(), w.model.stats(); got != want {
		w.Fatalf("call %d, %s: Stats() = %v, want %v", n, name, got, want)
	}
	for _, handle := range w.given {
		for i := range 3 {
			number, err := w.heap.Get(handle, i)
			if got, want := tells(w.T, number, false, err), w.model.get(handle, i); got != want {
				w.Fatalf("call %d, %s: then Get(%d, %d): %+v, want %+v", n, name, handle, i, got, want)
			}
		}
	}
}

// P1, P3 to P13: long rows of calls tell what the document says, whatever came before.
func TestRowsOfCalls(t *testing.T) {
	classes := [][]int{{api.Number, api.Reference}, {api.Reference, api.Reference, api.Number}, nil}
	for seed := range uint64(120) {
		random := rand.New(rand.NewPCG(seed, 5))
		c := config(1+random.IntN(60), 1+random.IntN(7), 1+random.IntN(3), 1+random.IntN(3), classes...)
		w := &walk{t, random, newHeap(t, c), newModel(c), nil}
		for n := range 400 {
			w.step(n)
		}
	}
}
