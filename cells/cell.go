package cells

import (
	"slices"

	"facsimile/api"
	"facsimile/shape"
)

// none is the number of no shape, and of no slot.
const none = -1

// cell is a cell as a store keeps it: an *object, or a *plain one.
type cell interface {
	// whole returns the cell as a plain heap has it, in new memory.
	whole(t *shape.Tree) api.Cell
}

// plain is an array, a closure or a weak cell.
type plain struct {
	api.Cell
}

// object is an object, which has Names of its own only if its shape is none.
type object struct {
	api.Cell
	shape int
}

// apart returns c as an object, or as another cell; what it is not is nil.
func apart(c cell) (*object, *plain) {
	switch c := c.(type) {
	case *object:
		return c, nil
	case *plain:
		return nil, c
	default:
		return nil, nil
	}
}

// adopt returns a copy of c to keep; an object gets the shape of its names.
func (s *Store) adopt(c api.Cell) cell {
	if c.Kind != api.Object {
		return &plain{duplicate(c)}
	}
	o := &object{duplicate(c), none}
	if made, e := s.tree.Make(c.Class, c.Names); e == api.OK {
		o.shape, o.Names = made, nil
	}
	return o
}

func (p *plain) whole(*shape.Tree) api.Cell { return duplicate(p.Cell) }

func (o *object) whole(t *shape.Tree) api.Cell {
	c := duplicate(o.Cell)
	c.Names = o.names(t)
	return c
}

// names returns the names of the items, in new memory.
func (o *object) names(t *shape.Tree) []string {
	if o.shape == none {
		return slices.Clone(o.Names)
	}
	return t.Names(o.shape)
}

// slot returns the number of the item with this name, or none.
func (o *object) slot(t *shape.Tree, name string) int {
	if o.shape == none {
		return slices.Index(o.Names, name)
	}
	if slot, ok := t.Slot(o.shape, name); ok {
		return slot
	}
	return none
}

// item returns the object's own item in a slot, or nil.
func (o *object) item(slot int) *api.Value {
	if slot < 0 || slot >= len(o.Items) {
		return nil
	}
	return &o.Items[slot]
}

// waits reports whether the shape is an alias.
func (o *object) waits(t *shape.Tree) bool { return t.Canon(o.shape) != o.shape }

// migrate makes the shape the canonical one; none stays none.
func (o *object) migrate(t *shape.Tree) { o.shape = t.Canon(o.shape) }

// add adds a field; no shape leads on from none.
func (o *object) add(t *shape.Tree, name string, x api.Value) {
	to, e := t.Add(o.shape, name)
	if e != api.OK {
		o.Names = append(o.names(t), name)
		to = none
	}
	o.shape = to
	o.Items = append(o.Items, x)
}

// duplicate returns a cell that is equal, and shares no memory.
func duplicate(c api.Cell) api.Cell {
	c.Names = slices.Clone(c.Names)
	c.Items = slices.Clone(c.Items)
	return c
}
