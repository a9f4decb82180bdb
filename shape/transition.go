package shape

import (
	"cmp"
	"iter"
	"maps"
	"slices"
)

// transition is the field by which objects leave a shape.
type transition struct {
	from int
	name string
}

func (x transition) compare(y transition) int {
	return cmp.Or(cmp.Compare(x.from, y.from), cmp.Compare(x.name, y.name))
}

// transitions goes through all transitions and the shapes to which they lead: those of a shape one after another, by their names.
func (t *Tree) transitions() iter.Seq2[transition, int] {
	return func(yield func(transition, int) bool) {
		for _, step := range slices.SortedFunc(maps.Keys(t.next), transition.compare) {
			if !yield(step, t.next[step]) {
				return
			}
		}
	}
}
