package cells

import (
	"math"
	"math/rand/v2"
	"slices"
	"strings"
	"testing"

	"facsimile/api"
)

// spoil changes all names and items of a cell, also those for which its lists only have room.
func spoil(c api.Cell) {
	names, items := c.Names[:cap(c.Names)], c.Items[:cap(c.Items)]
	for n := range names {
		names[n] = "changed"
	}
	for n := range items {
		items[n] = str("changed")
	}
}

// roomy returns a cell whose lists have room for more, and a function that checks that nothing in them has changed.
func roomy(t *testing.T, c api.Cell) (api.Cell, func()) {
	names := append(slices.Clone(c.Names), "room", "room")
	items := append(slices.Clone(c.Items), str("room"), str("room"))
	wantNames, wantItems := slices.Clone(names), slices.Clone(items)
	c.Names, c.Items = names[:len(c.Names)], items[:len(c.Items)]
	return c, func() {
		t.Helper()
		if !slices.Equal(names, wantNames) || !slices.Equal(items, wantItems) {
			t.Errorf("%q and %v became %q and %v", wantNames, wantItems, names, items)
		}
	}
}

// use calls everything that changes the objects 0 and 1, and the weak cell 2.
func use(s *Store) {
	for id := range 2 {
		s.Set(ref(id), "x", yes)
		s.Set(ref(id), "new", yes)
		s.Set(ref(id), "newer", yes)
		s.SetSlot(id, 0, str("set"))
	}
	s.Split(0)
	s.Merge(0, s.Tree().Count()-1)
	s.Waiting()
	s.Keep([]int{2, 3})
}

// R3: arguments are not changed, and a store keeps none of them.
func TestArguments(t *testing.T) {
	for _, full := range []bool{false, true} {
		for way := range 3 {
			s := with(t)
			if full {
				fillTree(t, s, 1)
			}
			l := []api.Cell{instance(0, "x"), instance(0, "x y"), weak(ref(0)), array(null, yes)}
			var given []api.Cell
			var checks []func()
			for _, c := range l {
				c, check := roomy(t, c)
				given, checks = append(given, c), append(checks, check)
			}
			switch way {
			case 0:
				for id, c := range given {
					allocs(t, s, id, c)
				}
			case 1:
				for id, c := range given {
					allocs(t, s, id, array())
					if e := s.Put(id, c); e != api.OK {
						t.Errorf("Put = %d", e)
					}
				}
			case 2:
				s = loaded(t, classes("x", ""), numbered(given...), 4)
			}
			for _, c := range given {
				spoil(c)
			}
			has(t, s, 4, numbered(l...)...)
			for id, c := range l {
				copy(given[id].Names[:cap(given[id].Names)], append(slices.Clone(c.Names), "room", "room"))
				copy(given[id].Items[:cap(given[id].Items)], append(slices.Clone(c.Items), str("room"), str("room")))
			}
			use(s)
			for _, check := range checks {
				check()
			}
		}
	}
}

// R3: classes, entries and ids are not changed, and a store keeps none of them.
func TestListsOfArguments(t *testing.T) {
	c := classes("x", "", "y")
	entries := numbered(instance(0, "x"), array(), array())
	s := loaded(t, c[:2], entries[:2], 2)
	other := New(c[:2])
	check := unchanged(t, s)
	c[0].Fields[0], c[1].Fields, entries[0].Id, entries[1].Cell = "changed", []string{"z"}, 9, weak(null)
	check()
	reads(t, other, "roots 0 1", "0 0 x >", "1 1 >")
	c[0].Fields[0], c[1].Fields, entries[0].Id, entries[1].Cell = "x", nil, 0, array()
	ids := list(7, 1, 0, 1, 3)
	sets(t, s, 0, "y", null, true)
	s.Keep(ids[:3])
	if !slices.Equal(ids, list(7, 1, 0, 1, 3)) {
		t.Errorf("ids became %v", ids)
	}
	if !sameEntries(entries, numbered(instance(0, "x"), array(), array())) || len(c) != 3 || !slices.Equal(c[0].Fields, []string{"x"}) || len(c[1].Fields) != 0 || !slices.Equal(c[2].Fields, []string{"y"}) {
		t.Errorf("the classes became %v, the entries %v", c, entries)
	}
}

// R3: results share no memory with the store, nor with each other.
func TestResultsAreNew(t *testing.T) {
	for _, full := range []bool{false, true} {
		s := with(t)
		if full {
			fillTree(t, s, 1)
		}
		l := []api.Cell{instance(0, "x"), instance(0, "x y"), weak(ref(0)), array(null, yes), closure(0, null)}
		for id, c := range l {
			allocs(t, s, id, c)
		}
		for id, c := range l {
			first, _ := s.Cell(id)
			second, _ := s.Cell(id)
			spoil(first)
			if !same(second, c) {
				t.Errorf("Cell(%d) became %s", id, brief(second))
			}
		}
		first, second := s.Entries(), s.Entries()
		for n := range first {
			spoil(first[n].Cell)
			first[n].Id = 77
		}
		if !sameEntries(second, numbered(l...)) {
			t.Errorf("Entries changed")
		}
		has(t, s, len(l), numbered(l...)...)
		use(s)
		if !sameEntries(second, numbered(l...)) {
			t.Errorf("Entries changed")
		}
	}
	s := waiting(t)
	first, second := s.Waiting(), s.Waiting()
	first[0], first[1] = 77, 77
	waits(t, s, second...)
	waits(t, s, 0, 2)
	gone := s.Keep(list(1))
	gone[0], gone[1] = 77, 77
	has(t, s, 4, api.Entry{Id: 1, Cell: array(null, yes)})
}

// R3: cells share no memory with each other, nor stores.
func TestCellsDoNotDisturbEachOther(t *testing.T) {
	for _, full := range []bool{false, true} {
		s, other := with(t), with(t)
		if full {
			fillTree(t, s, 1)
		}
		c, _ := roomy(t, instance(0, "x y z"))
		for id := range 3 {
			allocs(t, s, id, c)
		}
		allocs(t, other, 0, c)
		for id, name := range []string{"a", "b", "c"} {
			sets(t, s, id, name, str(name), true)
			sets(t, s, id, "x", str(name), false)
		}
		for id, name := range []string{"a", "b", "c"} {
			sets(t, s, id, name+name, yes, true)
			want := instance(0, "x y z", str(name), integer(1), integer(2), str(name), yes)
			want.Names = append(want.Names, name, name+name)
			if got, ok := s.Cell(id); !ok || !same(got, want) {
				t.Errorf("Cell(%d) = %s, want %s", id, brief(got), brief(want))
			}
		}
		has(t, other, 1, numbered(instance(0, "x y z"))...)
		reads(t, other, "roots 0 1", "0 0 x >", "1 1 >", "2 0 x y z >")
	}
}

// A nil or zero store has no cells and no classes.
func TestNilAndZeroStore(t *testing.T) {
	for _, s := range []*Store{nil, {}} {
		for _, c := range append(wrongCells(), array(), closure(0), weak(null), weak(ref(0)), instance(0, ""), instance(0, "x"), instance(math.MaxInt, "x")) {
			if id, e := s.Alloc(c); id != 0 || e != api.ErrArg {
				t.Errorf("Alloc(%s) = %d, %d", brief(c), id, e)
			}
			for _, id := range append(lost(), 0, 1) {
				if e := s.Put(id, c); e != api.ErrArg {
					t.Errorf("Put(%d, %s) = %d", id, brief(c), e)
				}
			}
		}
		for _, n := range append(lost(), 0, 1) {
			findsNothing(t, s, n)
			if a, e := s.Split(n); a != 0 || e != api.ErrArg {
				t.Errorf("Split(%d) = %d, %d", n, a, e)
			}
			for _, b := range append(lost(), 0, 1) {
				if e := s.Merge(n, b); e != api.ErrArg {
					t.Errorf("Merge(%d, %d) = %d", n, b, e)
				}
			}
			if l := s.Keep(list(n, 0)); len(l) != 0 {
				t.Errorf("Keep = %v", l)
			}
		}
		if s.Tree() != nil || len(s.Waiting()) != 0 || len(s.Keep(nil)) != 0 || len(s.Entries()) != 0 || s.Next() != 0 {
			t.Errorf("%v, %v, %v, %d", s.Tree(), s.Waiting(), s.Entries(), s.Next())
		}
	}
}

// findsNothing checks that nothing is found by an id.
func findsNothing(t *testing.T, s *Store, id int) {
	t.Helper()
	c, found := s.Cell(id)
	n, shaped := s.Shape(id)
	v, ok := s.Slot(id, 0)
	if found || !same(c, api.Cell{}) || shaped || n != 0 || ok || v != unset || s.SetSlot(id, 0, yes) {
		t.Errorf("%d is found", id)
	}
	for _, name := range []string{"x", ""} {
		for v, want := range map[api.Value]string{ref(id): "type", null: "type", unset: "unset", integer(id): "type"} {
			if x, fault := s.Get(v, name); x != unset || fault != want {
				t.Errorf("Get of %v = %v, %q", v, x, fault)
			}
			if added, fault := s.Set(v, name, yes); added || fault != want {
				t.Errorf("Set of %v = %t, %q", v, added, fault)
			}
			if added, fault := s.Set(v, name, unset); added || fault != "unset" {
				t.Errorf("Set of %v = %t, %q", v, added, fault)
			}
		}
	}
}

// P1: no call panics, whatever its arguments are.
func TestAnyArguments(t *testing.T) {
	r := rand.New(rand.NewPCG(11, 1))
	number := func() int {
		l := []int{0, 1, 2, 3, 4, 5, -1, 12, 63, 64, 199, 200, 8000, math.MaxInt, math.MinInt}
		return l[r.IntN(len(l))]
	}
	text := func() string {
		l := []string{"", "x", "y", "\x00\xff", strings.Repeat("long", 1000)}
		return l[r.IntN(len(l))]
	}
	item := func() api.Value { return api.Value{Kind: r.IntN(10) - 1, N: number(), S: text()} }
	some := func() api.Cell {
		c := api.Cell{Kind: r.IntN(6), Class: r.IntN(4) * number(), Fun: r.IntN(2) * number(), Tenant: r.IntN(6) - 1}
		for range r.IntN(4) * r.IntN(30) {
			c.Names, c.Items = append(c.Names, text()), append(c.Items, item())
		}
		return c
	}
	for range 60 {
		s := with(t, instance(0, "x"), array(), weak(ref(0)), closure(0), instance(1, ""))
		if r.IntN(3) == 0 {
			fillTree(t, s, 1)
		}
		for range 100 {
			id, a := number(), number()
			s.Alloc(some())
			s.Put(id, some())
			s.Merge(a, id)
			s.Split(a)
			s.Shape(id)
			s.Slot(id, a)
			s.SetSlot(id, a, item())
			s.Get(item(), text())
			s.Set(item(), text(), item())
			s.Set(ref(id), text(), item())
			s.Cell(id)
		}
		s.Waiting()
		s.Entries()
		if l, e := Load(classes("x", text()), []api.Entry{{Id: number(), Cell: some()}, {Id: number(), Cell: some()}}, number()); (l == nil) != (e != api.OK) {
			t.Errorf("Load = %d", e)
		}
		s.Keep(list(number(), number()))
	}
}
