package cells

import (
	"math"
	"slices"
	"strconv"
	"testing"

	"facsimile/api"
	"facsimile/heap"
)

// P11.2: a new object has the shape of its names.
func TestAlloc(t *testing.T) {
	l := []api.Cell{
		instance(0, "x"), instance(0, "x"), instance(0, "x y"), instance(0, "y x"), instance(1, ""), instance(1, "x"), instance(0, ""), instance(0, "x y z"),
		instance(0, "y x", null, yes), instance(1, many(64)), instance(0, "x", ref(1000)),
	}
	l[0].Tenant = 3
	s := with(t, l...)
	has(t, s, len(l), numbered(l...)...)
	shaped(t, s, 0, 0, 2, 3, 1, 4, 5, 6, 3, 7, 0)
	reads(t, s, "roots 0 1", "0 0 x >", "1 1 >", "2 0 x y >", "3 0 y x >", "4 1 x >", "5 0 >", "6 0 x y z >", "7 1 "+many(64)+" >")
	waits(t, s)
}

// P11.2: other cells have no shape.
func TestAllocOfOtherCells(t *testing.T) {
	l := []api.Cell{array(), array(null, ref(1)), closure(0), closure(23, str("a")), weak(null), weak(ref(0)), weak(ref(9)), array(slices.Repeat([]api.Value{yes}, 64)...)}
	for n := range l {
		l[n].Tenant = n % 4
	}
	for _, c := range [][]api.Class{nil, classes("x")} {
		s := New(c)
		check := s.Tree().Text()
		for id, cell := range l {
			allocs(t, s, id, cell)
		}
		has(t, s, len(l), numbered(l...)...)
		if s.Tree().Text() != check {
			t.Errorf("the tree became\n%s", s.Tree().Text())
		}
	}
}

// P11.2: Make decides which of several shapes with the same names a new object has.
func TestAllocWithSeveralShapes(t *testing.T) {
	s := with(t, instance(0, "x y"), instance(0, "x"))
	splits(t, s, 2, 3)
	allocs(t, s, 2, instance(0, "x y"))
	splits(t, s, 0, 4)
	allocs(t, s, 3, instance(0, "x"))
	shaped(t, s, 2, 0, 2, 4)
	merges(t, s, 3, 2)
	allocs(t, s, 4, instance(0, "x y"))
	merges(t, s, 0, 4)
	allocs(t, s, 5, instance(0, "x"))
	waits(t, s, 0, 2, 3)
	shaped(t, s, 3, 0, 3, 0, 3, 0)
}

// P11.2: what is refused changes nothing.
func TestAllocRefuses(t *testing.T) {
	s := with(t, instance(0, "x"), instance(0, "y"))
	check := unchanged(t, s)
	wrong := wrongCells()
	for _, class := range []int{2, 3, 11, 12, 13, 1000, math.MaxInt} {
		wrong = append(wrong, instance(class, ""), instance(class, "x"), instance(class, "new"))
	}
	for _, c := range wrong {
		if id, e := s.Alloc(c); id != 0 || e != api.ErrArg {
			t.Errorf("Alloc(%s) = %d, %d", brief(c), id, e)
		}
		check()
	}
	for _, count := range []int{0, 12, 13} {
		s := New(classes(slices.Repeat([]string{"x"}, count)...))
		for class := range 14 {
			id, e := s.Alloc(instance(class, "x"))
			if class < min(count, 12) {
				if id != class || e != api.OK {
					t.Errorf("Alloc of an object of %d, of %d classes = %d, %d", class, count, id, e)
				}
			} else if id != 0 || e != api.ErrArg {
				t.Errorf("Alloc of an object of %d, of %d classes = %d, %d", class, count, id, e)
			}
		}
	}
}

// P11.2: the class of a cell that is no object is no number of a class.
func TestAllocLooksAtClassesOfObjectsAlone(t *testing.T) {
	s := New(nil)
	for id, c := range []api.Cell{array(), closure(0), weak(null)} {
		allocs(t, s, id, c)
	}
	if id, e := s.Alloc(instance(0, "")); id != 0 || e != api.ErrArg {
		t.Errorf("Alloc of an object without classes = %d, %d", id, e)
	}
}

// P11.2: with 8000 cells there are no more, and the tree stays; a cell that is not right is found first.
func TestAllocOfMoreThanAllCells(t *testing.T) {
	s := loaded(t, classes("x"), numbered(slices.Repeat([]api.Cell{array()}, 7999)...), 9000)
	allocs(t, s, 9000, instance(0, "x"))
	for _, c := range []api.Cell{array(), instance(0, "x"), instance(0, "new"), closure(0), weak(null)} {
		if id, e := s.Alloc(c); id != 0 || e != api.ErrMany {
			t.Errorf("Alloc(%s) = %d, %d", brief(c), id, e)
		}
	}
	for _, c := range append(wrongCells(), instance(1, "")) {
		if id, e := s.Alloc(c); id != 0 || e != api.ErrArg {
			t.Errorf("Alloc(%s) = %d, %d", brief(c), id, e)
		}
	}
	reads(t, s, "roots 0", "0 0 x >")
	if s.Next() != 9001 || len(s.Entries()) != 8000 {
		t.Errorf("%d cells, the next is %d", len(s.Entries()), s.Next())
	}
	s.Keep(list(0, 9000))
	allocs(t, s, 9001, instance(0, "new"))
	has(t, s, 9002, api.Entry{Id: 0, Cell: array()}, api.Entry{Id: 9000, Cell: instance(0, "x")}, api.Entry{Id: 9001, Cell: instance(0, "new")})
}

// P11.2: with 200 shapes, an object with other names has none.
func TestAllocOfMoreThanAllShapes(t *testing.T) {
	s := with(t, instance(0, "x a"))
	fillTree(t, s, 1)
	l := []api.Cell{instance(0, "x a"), instance(0, "new"), instance(0, "x"), instance(0, "new"), instance(1, "only7"), instance(1, "x"), instance(0, "only7")}
	for n, c := range l[1:] {
		allocs(t, s, n+1, c)
	}
	has(t, s, len(l), numbered(l...)...)
	shaped(t, s, 2, -1, 0, -1, 7, -1, -1)
	waits(t, s)
	if s.Tree().Count() != 200 {
		t.Errorf("%d shapes", s.Tree().Count())
	}
}

// P11.2: Cell finds only what is there.
func TestCell(t *testing.T) {
	s := with(t, instance(0, "x"), array(null))
	for _, id := range append(lost(), 2, 3) {
		if c, ok := s.Cell(id); ok || !same(c, api.Cell{}) {
			t.Errorf("Cell(%d) = %s, %t", id, brief(c), ok)
		}
	}
	s.Keep(list(1))
	if c, ok := s.Cell(0); ok || !same(c, api.Cell{}) {
		t.Errorf("Cell of what was removed = %s, %t", brief(c), ok)
	}
	has(t, s, 2, api.Entry{Id: 1, Cell: array(null)})
}

// P11.2: neither Cell nor Entries lets an object migrate.
func TestCellsStayWaiting(t *testing.T) {
	s := with(t, instance(0, "x"), instance(0, "x y"), instance(0, "x"))
	splits(t, s, 0, 3)
	merges(t, s, 3, 0)
	for range 2 {
		has(t, s, 3, numbered(instance(0, "x"), instance(0, "x y"), instance(0, "x"))...)
		waits(t, s, 0, 2)
	}
}

// P11.2: Entries has the cells by increasing ids, and ids are given once.
func TestEntries(t *testing.T) {
	var want []api.Entry
	s := New(classes("x"))
	for id := range 300 {
		c := instance(0, "x", integer(id))
		allocs(t, s, id, c)
		want = append(want, api.Entry{Id: id, Cell: c})
		if id%7 == 0 {
			var ids []int
			want = slices.DeleteFunc(want, func(e api.Entry) bool { return e.Id%5 == 3 })
			for _, e := range want {
				ids = append(ids, e.Id)
			}
			s.Keep(ids)
		}
		has(t, s, id+1, want...)
	}
}

// R5: the next id wraps around as on a plain heap.
func TestNextWrapsAround(t *testing.T) {
	s := loaded(t, classes("x"), nil, math.MaxInt)
	h, _ := heap.Load(nil, math.MaxInt)
	for range 3 {
		id, e := s.Alloc(instance(0, "x"))
		if want, _ := h.Alloc(instance(0, "x")); id != want || e != api.OK {
			t.Errorf("Alloc = %d, %d, want %d", id, e, want)
		}
		if s.Next() != h.Next() || !sameEntries(s.Entries(), h.Entries()) {
			t.Errorf("Next = %d, want %d, or Entries differ", s.Next(), h.Next())
		}
	}
}

// P11.2: Keep removes what is not named, also what is still denoted.
func TestKeep(t *testing.T) {
	for n, c := range []struct {
		ids, want []int
		left      []api.Entry
	}{
		{nil, list(0, 1, 2, 3, 4, 5), nil},
		{lost(), list(0, 1, 2, 3, 4, 5), nil},
		{list(0), list(1, 2, 3, 4, 5), []api.Entry{{Id: 0, Cell: instance(0, "x", ref(1))}}},
		{list(2, 0, 2, 9, 0, -1), list(1, 3, 4, 5), []api.Entry{{Id: 0, Cell: instance(0, "x", ref(1))}, {Id: 2, Cell: weak(ref(0))}}},
		{list(1, 2, 3, 4), list(0, 5), []api.Entry{{Id: 1, Cell: array(ref(0), ref(5))}, {Id: 2, Cell: weak(null)}, {Id: 3, Cell: weak(ref(9))}, {Id: 4, Cell: weak(null)}}},
		{list(5, 2, 4), list(0, 1, 3), []api.Entry{{Id: 2, Cell: weak(null)}, {Id: 4, Cell: weak(ref(5))}, {Id: 5, Cell: closure(0, ref(0))}}},
		{list(5, 4, 3, 2, 1, 0), nil, numbered(instance(0, "x", ref(1)), array(ref(0), ref(5)), weak(ref(0)), weak(ref(9)), weak(ref(5)), closure(0, ref(0)))},
	} {
		s := with(t, instance(0, "x", ref(1)), array(ref(0), ref(5)), weak(ref(0)), weak(ref(9)), weak(ref(5)), closure(0, ref(0)))
		if got := s.Keep(c.ids); !slices.Equal(got, c.want) {
			t.Errorf("%d: Keep = %v, want %v", n, got, c.want)
		}
		has(t, s, 6, c.left...)
		if got := s.Keep(c.ids); len(got) != 0 {
			t.Errorf("%d: the second Keep = %v", n, got)
		}
		has(t, s, 6, c.left...)
		allocs(t, s, 6, array())
	}
}

// P11.2: a weak cell that denotes itself, another weak cell, or a cell with a great id, loses its target with it alone.
func TestKeepOfWeakCells(t *testing.T) {
	s := with(t, weak(ref(0)), weak(ref(0)), weak(ref(1)), weak(null))
	if got := s.Keep(list(1, 2, 3)); !slices.Equal(got, list(0)) {
		t.Errorf("Keep = %v", got)
	}
	has(t, s, 4, api.Entry{Id: 1, Cell: weak(null)}, api.Entry{Id: 2, Cell: weak(ref(1))}, api.Entry{Id: 3, Cell: weak(null)})
	many := loaded(t, nil, append(numbered(slices.Repeat([]api.Cell{weak(null)}, 500)...), api.Entry{Id: 500, Cell: weak(ref(137))}, api.Entry{Id: 501, Cell: weak(ref(138))}), 600)
	var ids []int
	for id := range 502 {
		if id%2 == 0 || id > 499 {
			ids = append(ids, id)
		}
	}
	if got := many.Keep(ids); len(got) != 250 || got[0] != 1 || got[249] != 499 {
		t.Errorf("Keep = %v", got)
	}
	for id, want := range map[int]api.Value{500: null, 501: ref(138)} {
		if c, ok := many.Cell(id); !ok || !same(c, weak(want)) {
			t.Errorf("Cell(%d) = %s, %t", id, brief(c), ok)
		}
	}
}

// P11.2: what is kept keeps its shape, and waits as before.
func TestKeepLeavesShapes(t *testing.T) {
	s := with(t, instance(0, "x"), instance(0, "x"), instance(0, "y"), array(), instance(0, "x"))
	splits(t, s, 0, 3)
	merges(t, s, 3, 0)
	if got := s.Keep(list(0, 2, 4)); !slices.Equal(got, list(1, 3)) {
		t.Errorf("Keep = %v", got)
	}
	waits(t, s, 0, 4)
	reads(t, s, "roots 3 1", "0 0 x = 3", "1 1 >", "2 0 y >", "3 0 x >")
	for _, id := range list(1, 3) {
		if n, ok := s.Shape(id); n != 0 || ok {
			t.Errorf("Shape(%d) = %d, %t", id, n, ok)
		}
	}
	for id, want := range map[int]int{0: 3, 2: 2, 4: 3} {
		if got, ok := s.Shape(id); got != want || !ok {
			t.Errorf("Shape(%d) = %d, %t, want %d", id, got, ok, want)
		}
	}
}

// A visit of all cells goes in order, and can be left.
func TestVisitCanBeLeft(t *testing.T) {
	s := New(classes("x"))
	for id := range 20 {
		allocs(t, s, id, instance(0, "x f"+strconv.Itoa(id)))
	}
	var seen []int
	for id := range s.all() {
		seen = append(seen, id)
		if id == 12 {
			break
		}
	}
	if !slices.Equal(seen, list(0, 1, 2, 3, 4, 5, 6, 7, 8, 9, 10, 11, 12)) {
		t.Errorf("visited: %v", seen)
	}
}
