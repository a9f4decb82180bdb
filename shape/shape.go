// Package shape is layer 8: see shared/doc/08-shape.md.
package shape

import (
	"facsimile/api"
)

type Tree struct{}

func New(c []api.Class) *Tree { return nil }

func (t *Tree) Root(class int) int { return 0 }

func (t *Tree) Add(shape int, name string) (int, api.Errno) { return 0, api.OK }

func (t *Tree) Slot(shape int, name string) (int, bool) { return 0, false }

func (t *Tree) Names(shape int) []string { return nil }

func (t *Tree) Class(shape int) int { return 0 }

func (t *Tree) Find(class int, names []string) (int, bool) { return 0, false }

func (t *Tree) Make(class int, names []string) (int, api.Errno) { return 0, api.OK }

func (t *Tree) Merge(a, b int) api.Errno { return api.OK }

func (t *Tree) Split(a int) (int, api.Errno) { return 0, api.OK }

func (t *Tree) Canon(shape int) int { return 0 }

func (t *Tree) Count() int { return 0 }

func (t *Tree) Text() string { return "" }
