package cells

import (
	"math/rand/v2"
	"slices"
	"testing"

	"facsimile/api"
	"facsimile/heap"
	"facsimile/shape"
	"facsimile/value"
)

// pair is a store, a plain heap and a tree on which the same is done, and the shapes that the objects should have.
type pair struct {
	t      *testing.T
	r      *rand.Rand
	s      *Store
	h      *heap.Heap
	x      *shape.Tree
	shapes map[int]int
}

func newPair(t *testing.T, r *rand.Rand) *pair {
	c := classes("a", "", "b a")[:1+r.IntN(3)]
	return &pair{t, r, New(c), heap.New(), shape.New(c), map[int]int{}}
}

// id returns the id of a cell, or one that is not there.
func (p *pair) id() int { return p.r.IntN(p.h.Next()+2) - 1 }

// value returns a value; a ref among them denotes a cell, or one that is still to come.
func (p *pair) value() api.Value {
	l := []api.Value{null, yes, integer(p.r.IntN(9)), str("s"), function(1), p.target(), p.target(), unset}
	return l[p.r.IntN(len(l))]
}

// target returns a ref that does not denote a removed cell, or nil.
func (p *pair) target() api.Value {
	id := p.r.IntN(p.h.Next() + 5)
	if _, ok := p.h.Cell(id); ok || id >= p.h.Next() {
		return ref(id)
	}
	return null
}

func (p *pair) name() string { return []string{"a", "b", "c", "d", ""}[p.r.IntN(45)/10] }

func (p *pair) names() []string {
	names := []string{"a", "b", "c", "d"}
	p.r.Shuffle(4, func(i, j int) { names[i], names[j] = names[j], names[i] })
	return names[:p.r.IntN(4)]
}

// cell returns a cell, which is right for the most part.
func (p *pair) cell() api.Cell {
	items := []api.Value{p.value(), p.value(), p.value()}
	c := []api.Cell{array(items...), closure(1, items[1:]...), weak(p.target()), {}, weak(integer(1))}[p.r.IntN(12)%5]
	if p.r.IntN(2) == 0 {
		names := p.names()
		c = api.Cell{Kind: api.Object, Class: p.r.IntN(4), Names: names, Items: items[:len(names)]}
	}
	c.Tenant = p.r.IntN(4)
	return c
}

// fits tells whether a cell is right, and of a class of the tree.
func (p *pair) fits(c api.Cell) bool {
	return heap.Right(c) && (c.Kind != api.Object || p.x.Root(c.Class) >= 0)
}

// shapeOf notes the shape that a cell with this id should have from now on.
func (p *pair) shapeOf(id int, c api.Cell) {
	delete(p.shapes, id)
	if c.Kind != api.Object {
		return
	}
	n, e := p.x.Make(c.Class, c.Names)
	if e != api.OK {
		n = -1
	}
	p.shapes[id] = n
}

// migrate notes that the object with this id, if it is one, has the canonical shape from now on.
func (p *pair) migrate(id int) {
	if n, ok := p.shapes[id]; ok && n != -1 {
		p.shapes[id] = p.x.Canon(n)
	}
}

func (p *pair) alloc() {
	c := p.cell()
	wantId, wantError := 0, api.ErrArg
	if p.fits(c) {
		wantId, wantError = p.h.Alloc(c)
		p.shapeOf(wantId, c)
	}
	if id, e := p.s.Alloc(c); id != wantId || e != wantError {
		p.t.Fatalf("Alloc(%s) = %d, %d, want %d, %d", brief(c), id, e, wantId, wantError)
	}
}

// put makes a new plain heap, in which the cells are made one after another, with others between them that are removed again.
func (p *pair) put() {
	id, c := p.id(), p.cell()
	want := api.ErrArg
	if _, ok := p.h.Cell(id); ok && p.fits(c) {
		want = api.OK
		p.shapeOf(id, c)
		old := p.h
		p.h = heap.New()
		var ids []int
		for n := range old.Next() {
			cell, ok := old.Cell(n)
			if n == id {
				cell = c
			}
			if ok {
				ids = append(ids, n)
			} else {
				cell = array()
			}
			p.h.Alloc(cell)
		}
		p.h.Keep(ids)
	}
	if e := p.s.Put(id, c); e != want {
		p.t.Fatalf("Put(%d, %s) = %d, want %d", id, brief(c), e, want)
	}
}

func (p *pair) get() {
	v, name := p.operand(), p.name()
	want, wantFault := p.h.Get(v, name)
	if v.Kind == api.Ref {
		p.migrate(v.N)
	}
	if got, fault := p.s.Get(v, name); got != want || fault != wantFault {
		p.t.Fatalf("Get(%s, %q) = %s, %q, want %s, %q", value.Text(v), name, value.Text(got), fault, value.Text(want), wantFault)
	}
}

func (p *pair) set() {
	v, name, x := p.operand(), p.name(), p.value()
	want, wantFault := p.h.Set(v, name, x)
	if v.Kind == api.Ref && x != unset {
		p.migrate(v.N)
	}
	if want && p.shapes[v.N] != -1 {
		n, e := p.x.Add(p.shapes[v.N], name)
		if e != api.OK {
			n = -1
		}
		p.shapes[v.N] = n
	}
	if got, fault := p.s.Set(v, name, x); got != want || fault != wantFault {
		p.t.Fatalf("Set(%s, %q, %s) = %t, %q, want %t, %q", value.Text(v), name, value.Text(x), got, fault, want, wantFault)
	}
}

// operand is a ref for the most part.
func (p *pair) operand() api.Value {
	if p.r.IntN(5) == 0 {
		return p.value()
	}
	return ref(p.id())
}

func (p *pair) slot() {
	id, slot, v := p.id(), p.r.IntN(6)-1, p.value()
	_, object := p.shapes[id]
	p.migrate(id)
	c, _ := p.h.Cell(id)
	there := object && slot >= 0 && slot < len(c.Items)
	switch p.r.IntN(3) {
	case 0:
		if got, ok := p.s.Shape(id); got != p.shapes[id] || ok != object {
			p.t.Fatalf("Shape(%d) = %d, %t, want %d, %t", id, got, ok, p.shapes[id], object)
		}
	case 1:
		var want api.Value
		if there {
			want = c.Items[slot]
		}
		if got, ok := p.s.Slot(id, slot); got != want || ok != there {
			p.t.Fatalf("Slot(%d, %d) = %s, %t, want %s, %t", id, slot, value.Text(got), ok, value.Text(want), there)
		}
	case 2:
		if there {
			p.h.Set(ref(id), c.Names[slot], v)
		}
		if ok := p.s.SetSlot(id, slot, v); ok != (there && v != unset) {
			p.t.Fatalf("SetSlot(%d, %d, %s) = %t", id, slot, value.Text(v), ok)
		}
	}
}

// change changes the tree by the store, or by itself.
func (p *pair) change() {
	a, b, name := p.r.IntN(p.x.Count()+1), p.r.IntN(p.x.Count()+1), p.name()
	for n := range 40 {
		if n > 0 && (p.x.Class(a) != p.x.Class(b) || !slices.Equal(p.x.Names(a), p.x.Names(b))) {
			b = p.r.IntN(p.x.Count() + 1)
		}
	}
	var got, want int
	var e, wantError api.Errno
	switch p.r.IntN(8) {
	case 0, 1, 2:
		e, wantError = p.s.Merge(a, b), p.x.Merge(a, b)
	case 3:
		e, wantError = p.s.Tree().Merge(a, b), p.x.Merge(a, b)
	case 4, 5:
		got, e = p.s.Split(a)
		want, wantError = p.x.Split(a)
	case 6:
		got, e = p.s.Tree().Split(a)
		want, wantError = p.x.Split(a)
	case 7:
		got, e = p.s.Tree().Add(a, name)
		want, wantError = p.x.Add(a, name)
	}
	if got != want || e != wantError {
		p.t.Fatalf("a change of the tree gives %d, %d, want %d, %d", got, e, want, wantError)
	}
}

func (p *pair) keep() {
	var ids []int
	for _, e := range p.h.Entries() {
		if p.r.IntN(6) > 0 {
			ids = append(ids, e.Id, p.id())
		}
	}
	got, want := p.s.Keep(ids), p.h.Keep(ids)
	if !slices.Equal(got, want) {
		p.t.Fatalf("Keep(%v) = %v, want %v", ids, got, want)
	}
	for _, id := range want {
		delete(p.shapes, id)
	}
}

// look compares everything that a store tells without that an object migrates.
func (p *pair) look() {
	if !sameEntries(p.s.Entries(), p.h.Entries()) || p.s.Next() != p.h.Next() {
		p.t.Fatalf("Next is %d, want %d, or the cells differ", p.s.Next(), p.h.Next())
	}
	if p.s.Tree().Text() != p.x.Text() {
		p.t.Fatalf("the tree is\n%swant\n%s", p.s.Tree().Text(), p.x.Text())
	}
	var want []int
	for id := range p.h.Next() {
		if n, ok := p.shapes[id]; ok && p.x.Canon(n) != n {
			want = append(want, id)
		}
	}
	if got := p.s.Waiting(); !slices.Equal(got, want) {
		p.t.Fatalf("Waiting = %v, want %v", got, want)
	}
}

// lookAtShapes checks what P11.7 says of the shapes of all objects, which migrate.
func (p *pair) lookAtShapes() {
	for id, n := range p.shapes {
		p.migrate(id)
		c, _ := p.s.Cell(id)
		got, ok := p.s.Shape(id)
		if got != p.shapes[id] || !ok {
			p.t.Fatalf("Shape(%d) = %d, %t, want %d", id, got, ok, p.shapes[id])
		}
		if n != -1 && (!slices.Equal(p.x.Names(got), c.Names) || p.x.Class(got) != c.Class) {
			p.t.Fatalf("the shape %d has the names %q, the object %d %q", got, p.x.Names(got), id, c.Names)
		}
		if n == -1 && p.x.Count() < api.MaxShapes {
			p.t.Fatalf("%d has no shape, though there are only %d", id, p.x.Count())
		}
		for slot, want := range c.Items {
			slots(p.t, p.s, id, slot, want)
		}
	}
	waits(p.t, p.s)
}

// P11.1 to P11.7: whatever is done, the cells are those of a plain heap, and the shapes those that the chapter says.
func TestAgainstPlainHeap(t *testing.T) {
	r := rand.New(rand.NewPCG(11, 7))
	full, lost := 0, 0
	for run := range 80 {
		p := newPair(t, r)
		steps := []func(){p.alloc, p.put, p.get, p.set, p.set, p.slot, p.slot, p.change, p.change}
		if run%2 == 1 { // until there are all shapes, for the most part
			steps = append(steps, slices.Repeat([]func(){p.change}, 16)...)
		}
		for range 60 + 8*run {
			step := r.IntN(len(steps))
			if r.IntN(40) == 0 {
				p.keep()
			} else {
				steps[step]()
			}
			p.look()
			if r.IntN(100) == 0 {
				p.lookAtShapes()
			}
		}
		p.lookAtShapes()
		p.look()
		if p.x.Count() == api.MaxShapes {
			full++
		}
		for _, n := range p.shapes {
			lost += min(n, 0)
		}
		p.again()
	}
	if full == 0 || full == 80 || lost == 0 {
		t.Errorf("%d of 80 trees have all shapes, and %d objects none", full, -lost)
	}
}

// again loads the cells again, if they are closed.
func (p *pair) again() {
	for _, e := range p.h.Entries() {
		for _, v := range e.Cell.Items {
			if _, ok := p.h.Cell(v.N); v.Kind == api.Ref && !ok {
				return
			}
		}
	}
	c := classes("a", "", "b a")
	s := loaded(p.t, c, p.h.Entries(), p.h.Next())
	has(p.t, s, p.h.Next(), p.h.Entries()...)
	for id := range p.shapes {
		c, _ := p.h.Cell(id)
		if n, ok := s.Shape(id); !ok || n != -1 && !slices.Equal(s.Tree().Names(n), c.Names) {
			p.t.Errorf("Shape(%d) = %d, %t", id, n, ok)
		}
	}
}
