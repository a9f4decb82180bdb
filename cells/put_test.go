package cells

import (
	"math"
	"slices"
	"testing"

	"facsimile/api"
)

// P11.5: Put replaces a cell by one of any kind.
func TestPut(t *testing.T) {
	l := []api.Cell{instance(0, "x"), instance(1, "a b"), array(null, yes), closure(3, ref(0)), weak(ref(2)), instance(0, "y x"), instance(1, ""), array(), weak(null)}
	for at := range l {
		for _, c := range l {
			s := with(t, l...)
			if e := s.Put(at, c); e != api.OK {
				t.Errorf("Put(%d, %s) = %d", at, brief(c), e)
			}
			want := slices.Clone(l)
			want[at] = c
			has(t, s, len(l), numbered(want...)...)
			reads(t, s, "roots 0 1", "0 0 x >", "1 1 >", "2 1 a b >", "3 0 y x >")
			waits(t, s)
			shape, ok := s.Shape(at)
			names, class := s.Tree().Names(shape), s.Tree().Class(shape)
			if isObject := c.Kind == api.Object; ok != isObject || isObject && (class != c.Class || !slices.Equal(names, c.Names)) {
				t.Errorf("after Put(%d, %s) the shape is %d, %t", at, brief(c), shape, ok)
			}
			for slot, v := range c.Items {
				if got, ok := s.Slot(at, slot); ok != (c.Kind == api.Object) || ok && got != v {
					t.Errorf("after Put(%d, %s) the slot %d is %v, %t", at, brief(c), slot, got, ok)
				}
			}
			s.Keep(list(0, 1, 3, 4, 5, 6, 7, 8))
			for _, id := range list(4, at) {
				if c, ok := s.Cell(id); ok && c.Kind == api.Weak && c.Items[0] != null {
					t.Errorf("after Put(%d, %s) and Keep the weak cell %d is %s", at, brief(want[at]), id, brief(c))
				}
			}
		}
	}
}

// P11.5: a new shape is made for new names, also of another class.
func TestPutMakesShapes(t *testing.T) {
	s := with(t, instance(0, "x"), instance(0, "x"), array())
	for n, c := range []struct {
		id   int
		cell api.Cell
		want int
	}{
		{0, instance(0, "x y"), 2}, {1, instance(0, "y x"), 3}, {2, instance(0, "x y"), 2}, {2, instance(1, "x y"), 4}, {2, instance(1, ""), 1},
		{0, instance(0, "x"), 0}, {0, instance(0, many(64)), 5}, {1, instance(0, many(64)), 5},
	} {
		if e := s.Put(c.id, c.cell); e != api.OK {
			t.Errorf("%d: Put = %d", n, e)
		}
		if got, ok := s.Shape(c.id); got != c.want || !ok {
			t.Errorf("%d: Shape(%d) = %d, %t, want %d", n, c.id, got, ok, c.want)
		}
	}
	reads(t, s, "roots 0 1", "0 0 x >", "1 1 >", "2 0 x y >", "3 0 y x >", "4 1 x y >", "5 0 "+many(64)+" >")
	has(t, s, 3, numbered(instance(0, many(64)), instance(0, many(64)), instance(1, ""))...)
}

// P11.5: an object that is put does not wait, whether the one before it did or not.
func TestPutOfWhatWaits(t *testing.T) {
	s := waiting(t)
	c, _ := s.Cell(0)
	if e := s.Put(0, c); e != api.OK {
		t.Errorf("Put = %d", e)
	}
	waits(t, s, 2)
	if e := s.Put(2, array()); e != api.OK {
		t.Errorf("Put = %d", e)
	}
	waits(t, s)
	shaped(t, s, 2)
	splits(t, s, 2, 3)
	shaped(t, s, 2)
	if e := s.Put(0, c); e != api.OK {
		t.Errorf("Put = %d", e)
	}
	shaped(t, s, 3)
	has(t, s, 4, numbered(instance(0, "x", integer(5)), array(null, yes), array(), instance(1, ""))...)
}

// P11.5: with 200 shapes an object gets the shape of its names only if there is one.
func TestPutWithAllShapes(t *testing.T) {
	s := with(t, instance(0, "x"), instance(0, "x"), array())
	fillTree(t, s, 1)
	for _, id := range []int{0, 2} {
		if e := s.Put(id, instance(0, "x q")); e != api.OK {
			t.Errorf("Put(%d) = %d", id, e)
		}
	}
	shaped(t, s, -1, 0, -1)
	gets(t, s, 2, "q", integer(1))
	has(t, s, 3, numbered(instance(0, "x q"), instance(0, "x"), instance(0, "x q"))...)
	for id, c := range []api.Cell{instance(0, "x"), instance(0, "x p"), instance(1, "only9")} {
		if e := s.Put(id, c); e != api.OK {
			t.Errorf("Put(%d) = %d", id, e)
		}
	}
	shaped(t, s, 0, -1, 9)
	waits(t, s)
	has(t, s, 3, numbered(instance(0, "x"), instance(0, "x p"), instance(1, "only9"))...)
}

// P11.5: what is refused changes nothing.
func TestPutRefuses(t *testing.T) {
	s := waiting(t)
	s.Keep(list(0, 1, 2))
	check := unchanged(t, s)
	for _, id := range append(lost(), 3, 4, 5) {
		for _, c := range []api.Cell{array(), instance(0, "x"), instance(0, "new"), instance(9, ""), {}} {
			if e := s.Put(id, c); e != api.ErrArg {
				t.Errorf("Put(%d, %s) = %d", id, brief(c), e)
			}
		}
	}
	wrong := wrongCells()
	for _, class := range []int{2, 3, 11, 12, 13, math.MaxInt} {
		wrong = append(wrong, instance(class, ""), instance(class, "x"), instance(class, "new"))
	}
	for _, c := range wrong {
		for id := range 3 {
			if e := s.Put(id, c); e != api.ErrArg {
				t.Errorf("Put(%d, %s) = %d", id, brief(c), e)
			}
		}
	}
	check()
	few := New(classes(slices.Repeat([]string{""}, 13)...))
	allocs(t, few, 0, array())
	for class, want := range map[int]api.Errno{0: api.OK, 11: api.OK, 12: api.ErrArg, 13: api.ErrArg} {
		if e := few.Put(0, instance(class, "x")); e != want {
			t.Errorf("Put of an object of %d = %d, want %d", class, e, want)
		}
	}
}

// P11.5: Put is possible with 8000 cells.
func TestPutWithAllCells(t *testing.T) {
	l := numbered(slices.Repeat([]api.Cell{array()}, 8000)...)
	s := loaded(t, classes("x"), l, 8000)
	if e := s.Put(7999, instance(0, "y")); e != api.OK {
		t.Errorf("Put = %d", e)
	}
	l[7999].Cell = instance(0, "y")
	has(t, s, 8000, l...)
}
