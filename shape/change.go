package shape

import (
	"maps"
	"slices"

	"facsimile/api"
)

// Add returns the shape of objects of this shape after a field was added.
func (t *Tree) Add(shape int, name string) (int, api.Errno) {
	from := t.Canon(shape)
	if from == none {
		return 0, api.ErrArg
	}
	l := t.layouts[from]
	if name == "" || slices.Contains(l.names, name) {
		return 0, api.ErrName
	}
	step := transition{from, name}
	if to, ok := t.next[step]; ok {
		return t.Canon(to), api.OK
	}
	if len(l.names) >= api.MaxItems {
		return 0, api.ErrMany
	}
	to, e := t.grow(l.class, l.names, name)
	if e == api.OK {
		t.next[step] = to
	}
	return to, e
}

// Make returns a shape with this class and these names, which is the root of the class, if this has them.
func (t *Tree) Make(class int, names []string) (int, api.Errno) {
	root := t.Root(class)
	if root == none || len(names) > api.MaxItems || !distinct(names) {
		return 0, api.ErrArg
	}
	if t.layouts[root].is(class, names) {
		return root, api.OK
	}
	if found, ok := t.Find(class, names); ok {
		return found, api.OK
	}
	return t.grow(class, names)
}

// Merge makes the canonical shape of b an alias of that of a.
func (t *Tree) Merge(a, b int) api.Errno {
	a, b = t.Canon(a), t.Canon(b)
	if a == none || b == none {
		return api.ErrArg
	}
	l := t.layouts[b]
	if !t.layouts[a].is(l.class, l.names) {
		return api.ErrArg
	}
	if a != b {
		t.layouts[b].alias = a
		maps.DeleteFunc(t.next, func(step transition, _ int) bool { return step.from == b })
	}
	return api.OK
}

// Split makes a new shape like a, to which the transitions and the root lead that led to the canonical shape of a.
func (t *Tree) Split(a int) (int, api.Errno) {
	old := t.Canon(a)
	if old == none {
		return 0, api.ErrArg
	}
	l := t.layouts[old]
	split, e := t.grow(l.class, l.names)
	if e != api.OK {
		return 0, e
	}
	for step, to := range t.transitions() {
		if t.Canon(to) == old {
			t.next[step] = split
		}
	}
	if t.Root(l.class) == old {
		t.roots[l.class] = split
	}
	return split, api.OK
}

// grow makes a shape with the next number and these names, unless there are too many shapes.
func (t *Tree) grow(class int, names []string, more ...string) (int, api.Errno) {
	if len(t.layouts) >= api.MaxShapes {
		return 0, api.ErrMany
	}
	t.layouts = append(t.layouts, layout{class, slices.Concat(names, more), none})
	return len(t.layouts) - 1, api.OK
}

// distinct reports whether no name is empty, or there twice.
func distinct(names []string) bool {
	for n, name := range names {
		if name == "" || slices.Contains(names[:n], name) {
			return false
		}
	}
	return true
}
