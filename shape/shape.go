// Package shape is layer 8: the shapes of objects, which say what slot each field has, and are merged and split while objects have them (see shared/doc/08-shape.md).
package shape

import (
	"slices"

	"facsimile/api"
)

// none is the number of no shape, and of no class.
const none = -1

// Tree keeps shapes by their numbers. There are no transitions of aliases.
type Tree struct {
	layouts []layout
	roots   []int // by classes
	next    map[transition]int
}

// layout is what a tree keeps of a shape.
type layout struct {
	class int
	names []string
	alias int // the shape of which it is an alias, or none
}

func (l layout) is(class int, names []string) bool {
	return l.class == class && slices.Equal(l.names, names)
}

// New returns a tree with a shape for each class, which is its root.
func New(c []api.Class) *Tree {
	t := &Tree{next: map[transition]int{}}
	for class := range min(len(c), api.MaxClasses) {
		fields := c[class].Fields
		t.grow(class, fields[:min(len(fields), api.MaxItems)])
		t.roots = append(t.roots, class)
	}
	return t
}

// Root returns the canonical shape of the root of a class, or -1.
func (t *Tree) Root(class int) int {
	if t == nil || class < 0 || class >= len(t.roots) {
		return none
	}
	return t.Canon(t.roots[class])
}

// Count returns how many shapes there are.
func (t *Tree) Count() int {
	if t == nil {
		return 0
	}
	return len(t.layouts)
}

// Canon returns the canonical shape of a shape, or -1.
func (t *Tree) Canon(shape int) int {
	if shape < 0 || shape >= t.Count() {
		return none
	}
	for t.layouts[shape].alias != none {
		shape = t.layouts[shape].alias
	}
	return shape
}

// Names returns the names of the slots of a shape, in order.
func (t *Tree) Names(shape int) []string { return slices.Clone(t.layout(shape).names) }

// Class returns the class of a shape, or -1.
func (t *Tree) Class(shape int) int { return t.layout(shape).class }

// Slot returns the slot of a field, and whether the shape has it.
func (t *Tree) Slot(shape int, name string) (int, bool) {
	slot := slices.Index(t.layout(shape).names, name)
	return max(slot, 0), slot >= 0
}

// layout returns that of the canonical shape, or one without class and names.
func (t *Tree) layout(shape int) layout {
	shape = t.Canon(shape)
	if shape == none {
		return layout{class: none}
	}
	return t.layouts[shape]
}

// Find returns the least shape that is no alias, and has this class and these names, and whether there is one.
func (t *Tree) Find(class int, names []string) (int, bool) {
	for shape := range t.Count() {
		if l := t.layouts[shape]; l.alias == none && l.is(class, names) {
			return shape, true
		}
	}
	return 0, false
}
