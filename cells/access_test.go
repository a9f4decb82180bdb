package cells

import (
	"math"
	"slices"
	"strconv"
	"strings"
	"testing"

	"facsimile/api"
	"facsimile/heap"
	"facsimile/value"
)

// waiting returns a store in which the objects 0 and 2 of four cells are waiting: their shape is 0, and the canonical one 2.
func waiting(t *testing.T) *Store {
	t.Helper()
	s := with(t, instance(0, "x", integer(5)), array(null, yes), instance(0, "x", ref(0)), instance(1, ""))
	splits(t, s, 0, 2)
	merges(t, s, 2, 0)
	waits(t, s, 0, 2)
	return s
}

// P11.3, P11.4: which calls let an object migrate, with a fault and without one.
func TestWhatMigrates(t *testing.T) {
	for n, call := range []func(s *Store){
		func(s *Store) { s.Shape(0) },
		func(s *Store) { s.Slot(0, 0) },
		func(s *Store) { s.Slot(0, 1) },
		func(s *Store) { s.Slot(0, -1) },
		func(s *Store) { s.Slot(0, math.MaxInt) },
		func(s *Store) { s.SetSlot(0, 0, null) },
		func(s *Store) { s.SetSlot(0, 1, null) },
		func(s *Store) { s.SetSlot(0, -1, null) },
		func(s *Store) { s.SetSlot(0, 0, unset) },
		func(s *Store) { s.SetSlot(0, 1, unset) },
		func(s *Store) { s.Get(ref(0), "x") },
		func(s *Store) { s.Get(ref(0), "z") },
		func(s *Store) { s.Get(ref(0), "") },
		func(s *Store) { s.Get(api.Value{Kind: api.Ref, S: "a"}, "x") },
		func(s *Store) { s.Set(ref(0), "x", null) },
		func(s *Store) { s.Set(ref(0), "y", null) },
		func(s *Store) { s.Set(ref(0), "", null) },
		func(s *Store) { s.Set(ref(0), "x", api.Value{Kind: 77}) },
	} {
		s := waiting(t)
		call(s)
		if got := s.Waiting(); !slices.Equal(got, list(2)) {
			t.Errorf("%d: waiting are %v", n, got)
		}
	}
}

// P11.3, P11.4: nothing migrates if an operand is unset, or denotes no object, nor by other calls.
func TestWhatDoesNotMigrate(t *testing.T) {
	for n, call := range []func(s *Store){
		func(s *Store) { s.Shape(1) },
		func(s *Store) { s.Shape(4) },
		func(s *Store) { s.Slot(1, 0) },
		func(s *Store) { s.Slot(-1, 0) },
		func(s *Store) { s.SetSlot(1, 0, null) },
		func(s *Store) { s.SetSlot(4, 0, null) },
		func(s *Store) { s.Get(unset, "x") },
		func(s *Store) { s.Get(null, "x") },
		func(s *Store) { s.Get(integer(0), "x") },
		func(s *Store) { s.Get(function(0), "x") },
		func(s *Store) { s.Get(api.Value{Kind: 77}, "x") },
		func(s *Store) { s.Get(ref(1), "x") },
		func(s *Store) { s.Get(ref(4), "x") },
		func(s *Store) { s.Set(ref(0), "x", unset) },
		func(s *Store) { s.Set(ref(0), "y", unset) },
		func(s *Store) { s.Set(ref(0), "", unset) },
		func(s *Store) { s.Set(ref(0), "x", api.Value{N: 1, S: "a"}) },
		func(s *Store) { s.Set(unset, "x", null) },
		func(s *Store) { s.Set(integer(0), "x", null) },
		func(s *Store) { s.Set(ref(1), "x", null) },
		func(s *Store) { s.Set(ref(4), "x", null) },
		func(s *Store) { s.Cell(0) },
		func(s *Store) { s.Entries() },
		func(s *Store) { s.Next() },
		func(s *Store) { s.Alloc(instance(0, "x")) },
		func(s *Store) { s.Put(1, instance(0, "x")) },
		func(s *Store) { s.Put(0, instance(7, "x")) },
		func(s *Store) { s.Put(0, api.Cell{}) },
		func(s *Store) { s.Keep(list(0, 2)) },
		func(s *Store) { s.Merge(0, 2) },
		func(s *Store) { s.Split(0) },
		func(s *Store) { s.Tree().Canon(0) },
	} {
		s := waiting(t)
		call(s)
		if got := s.Waiting(); !slices.Equal(got, list(0, 2)) {
			t.Errorf("%d: waiting are %v", n, got)
		}
	}
}

// P11.3: only objects have shapes and slots.
func TestNoObject(t *testing.T) {
	s := with(t, array(null, yes), closure(0, null, yes), weak(null))
	check := unchanged(t, s)
	for _, id := range append(lost(), 0, 1, 2, 3) {
		if n, ok := s.Shape(id); n != 0 || ok {
			t.Errorf("Shape(%d) = %d, %t", id, n, ok)
		}
		for _, slot := range []int{0, 1, 2, -1, math.MaxInt, math.MinInt} {
			if v, ok := s.Slot(id, slot); v != unset || ok {
				t.Errorf("Slot(%d, %d) = %s, %t", id, slot, value.Text(v), ok)
			}
			if s.SetSlot(id, slot, yes) {
				t.Errorf("SetSlot(%d, %d)", id, slot)
			}
		}
	}
	check()
}

// P11.3: slots are the numbers of items, with and without a shape.
func TestSlots(t *testing.T) {
	for _, full := range []bool{false, true} {
		s := with(t)
		if full {
			fillTree(t, s, 1)
		}
		allocs(t, s, 0, instance(0, "x y z", null, yes, str("a")))
		allocs(t, s, 1, instance(0, ""))
		shaped(t, s, map[bool][]int{false: {2, 3}, true: {-1, -1}}[full]...)
		slots(t, s, 0, 0, null)
		slots(t, s, 0, 1, yes)
		slots(t, s, 0, 2, str("a"))
		check := unchanged(t, s)
		for id, numbers := range [][]int{{3, 4, 64, -1, -2, math.MaxInt, math.MinInt}, {0, 1, -1, 64, math.MaxInt, math.MinInt}} {
			for _, slot := range numbers {
				if v, ok := s.Slot(id, slot); v != unset || ok {
					t.Errorf("Slot(%d, %d) = %s, %t", id, slot, value.Text(v), ok)
				}
				if s.SetSlot(id, slot, yes) {
					t.Errorf("SetSlot(%d, %d)", id, slot)
				}
			}
		}
		for slot := range 3 {
			if s.SetSlot(0, slot, unset) || s.SetSlot(0, slot, api.Value{N: 7, S: "a"}) {
				t.Errorf("SetSlot(0, %d) of an unset value", slot)
			}
		}
		check()
		want0 := instance(0, "x y z", null, yes, str("a"))
		for slot, v := range []api.Value{ref(77), integer(-3), null} {
			if !s.SetSlot(0, slot, v) {
				t.Errorf("SetSlot(0, %d) = false", slot)
			}
			want0.Items[slot] = v
			slots(t, s, 0, slot, v)
			has(t, s, 2, numbered(want0, instance(0, ""))...)
		}
	}
}

// P11.3: SetSlot takes all values but unset ones, as Set on a plain heap does.
func TestSetSlotOfWrongValues(t *testing.T) {
	for _, v := range []api.Value{{Kind: 77}, {Kind: -1, S: "a"}, integer(math.MaxInt), str(strings.Repeat("a", 300)), ref(-1), function(24)} {
		s := with(t, instance(0, "x"))
		if !s.SetSlot(0, 0, v) {
			t.Errorf("SetSlot of %v = false", v)
		}
		slots(t, s, 0, 0, v)
		sets(t, s, 0, "x", null, false)
		sets(t, s, 0, "x", v, false)
		gets(t, s, 0, "x", v)
	}
}

// P11.4: Get and Set have the results and faults of a plain heap.
func TestGetAndSetAsOnAPlainHeap(t *testing.T) {
	cells := []api.Cell{instance(0, "x y", null, yes), array(yes), closure(0, yes), weak(null), instance(1, ""), instance(0, many(64)), instance(0, many(63))}
	values := []api.Value{
		unset, {N: 5}, null, yes, integer(0), str("x"), function(0), ref(0), ref(1), ref(2), ref(3), ref(4), ref(5), ref(6), ref(7), ref(-1), ref(math.MaxInt),
		{Kind: api.Ref, N: 0, S: "a"}, {Kind: 77}, {Kind: -1},
	}
	for _, full := range []bool{false, true} {
		for _, v := range values {
			for _, name := range []string{"x", "y", "z", "", "f0", "f63", "X", "x y", "\xff\n"} {
				for _, x := range values {
					s, h := with(t), heap.New()
					if full {
						fillTree(t, s, 1)
					}
					for id, c := range cells {
						allocs(t, s, id, c)
						h.Alloc(c)
					}
					got, fault := s.Get(v, name)
					if want, wantFault := h.Get(v, name); got != want || fault != wantFault {
						t.Fatalf("Get(%v, %q) = %v, %q, want %v, %q", v, name, got, fault, want, wantFault)
					}
					added, fault := s.Set(v, name, x)
					if want, wantFault := h.Set(v, name, x); added != want || fault != wantFault {
						t.Fatalf("Set(%v, %q, %v) = %t, %q, want %t, %q", v, name, x, added, fault, want, wantFault)
					}
					if !sameEntries(s.Entries(), h.Entries()) {
						t.Fatalf("after Set(%v, %q, %v) the cells differ", v, name, x)
					}
				}
			}
		}
	}
}

// P11.4: an object to which a field is added gets the shape that Add returns.
func TestSetAddsShapes(t *testing.T) {
	s := with(t, instance(0, "x"), instance(0, "x"), instance(1, ""), instance(0, "x y"))
	sets(t, s, 0, "y", yes, true)
	sets(t, s, 1, "y", null, true)
	shaped(t, s, 3, 3, 1, 2) // not that with the same names, to which no transition leads
	sets(t, s, 0, "y", null, false)
	sets(t, s, 0, "z", null, true)
	sets(t, s, 3, "z", null, true)
	sets(t, s, 2, "x", null, true)
	shaped(t, s, 4, 3, 6, 5)
	reads(t, s, "roots 0 1", "0 0 x > y:3", "1 1 > x:6", "2 0 x y > z:5", "3 0 x y > z:4", "4 0 x y z >", "5 0 x y z >", "6 1 x >")
	has(t, s, 4, numbered(instance(0, "x y z", integer(0), null, null), instance(0, "x y", integer(0), null), instance(1, "x", null), instance(0, "x y z", integer(0), integer(1), null))...)
	for slot, v := range []api.Value{integer(0), null, null} {
		slots(t, s, 0, slot, v)
	}
}

// P11.4: an object that is waiting migrates before a field is added; one whose shape was split does not.
func TestSetAfterMergeAndSplit(t *testing.T) {
	s := waiting(t)
	sets(t, s, 0, "y", null, true)
	shaped(t, s, 3)
	reads(t, s, "roots 2 1", "0 0 x = 2", "1 1 >", "2 0 x > y:3", "3 0 x y >")
	s = with(t, instance(0, "x"), instance(0, "x"), instance(0, "x"))
	sets(t, s, 0, "y", null, true)
	splits(t, s, 0, 3)
	splits(t, s, 2, 4)
	allocs(t, s, 3, instance(0, "x"))
	sets(t, s, 1, "y", null, true)
	sets(t, s, 3, "y", null, true)
	shaped(t, s, 2, 4, 0, 5)
	reads(t, s, "roots 3 1", "0 0 x > y:4", "1 1 >", "2 0 x y >", "3 0 x > y:5", "4 0 x y >", "5 0 x y >")
	merges(t, s, 2, 4)
	merges(t, s, 5, 2)
	waits(t, s, 0, 1)
	sets(t, s, 2, "y", null, true)
	waits(t, s, 0, 1)
	shaped(t, s, 5, 5, 5, 5)
}

// P11.4: an object has at most 64 fields, with and without a shape.
func TestSetOfManyFields(t *testing.T) {
	for _, full := range []bool{false, true} {
		s := with(t, instance(0, "f0"))
		if full {
			fillTree(t, s, 1)
		}
		names := strings.Fields(many(65))
		for n, name := range names[1:64] {
			sets(t, s, 0, name, integer(n+1), true)
		}
		count := s.Tree().Count()
		check := unchanged(t, s)
		for _, name := range []string{names[64], ""} {
			if added, fault := s.Set(ref(0), name, null); added || fault != "range" {
				t.Errorf("Set of %q = %t, %q", name, added, fault)
			}
			check()
		}
		for n, name := range names[:64] {
			gets(t, s, 0, name, integer(n))
			slots(t, s, 0, n, integer(n))
			sets(t, s, 0, name, yes, false)
			gets(t, s, 0, name, yes)
		}
		if want := map[bool]int{false: 66, true: 200}[full]; count != want || s.Tree().Count() != want {
			t.Errorf("%d and %d shapes, want %d", count, s.Tree().Count(), want)
		}
		shaped(t, s, map[bool]int{false: 65, true: -1}[full])
	}
}

// P11.4: with 200 shapes an object loses its shape by a field that is added, unless there is a transition; it keeps its names.
func TestSetWithAllShapes(t *testing.T) {
	s := with(t, instance(0, "x"), instance(0, "x"), instance(0, "x"), instance(0, "x z"))
	sets(t, s, 0, "y", null, true)
	fillTree(t, s, 1)
	sets(t, s, 1, "y", yes, true)
	sets(t, s, 2, "z", str("a"), true)
	shaped(t, s, 3, 3, -1, 2) // Find would find the shape 2, but Add makes a new one
	waits(t, s)
	gets(t, s, 2, "x", integer(0))
	gets(t, s, 2, "z", str("a"))
	slots(t, s, 2, 0, integer(0))
	slots(t, s, 2, 1, str("a"))
	if v, fault := s.Get(ref(2), "y"); v != unset || fault != "field" {
		t.Errorf("Get of y = %s, %q", value.Text(v), fault)
	}
	sets(t, s, 2, "x", null, false)
	sets(t, s, 2, "q", yes, true)
	if !s.SetSlot(2, 2, integer(9)) || s.SetSlot(2, 3, null) || s.SetSlot(2, 0, unset) {
		t.Errorf("SetSlot of an object without a shape")
	}
	gets(t, s, 2, "q", integer(9))
	if added, fault := s.Set(ref(2), "", null); added || fault != "range" {
		t.Errorf("Set of an empty name = %t, %q", added, fault)
	}
	shaped(t, s, 3, 3, -1, 2)
	has(t, s, 4, numbered(instance(0, "x y", integer(0), null), instance(0, "x y", integer(0), yes), instance(0, "x z q", null, str("a"), integer(9)), instance(0, "x z"))...)
	if s.Tree().Count() != 200 {
		t.Errorf("%d shapes", s.Tree().Count())
	}
	s.Keep(list(2))
	has(t, s, 4, api.Entry{Id: 2, Cell: instance(0, "x z q", null, str("a"), integer(9))})
}

// P11.4: an object that loses its shape keeps the names that it got when it had one, also if it was waiting.
func TestNamesOfALostShape(t *testing.T) {
	s := with(t, instance(0, "x y"), instance(0, "x y"))
	splits(t, s, 2, 3)
	merges(t, s, 3, 2)
	fillTree(t, s, 1)
	sets(t, s, 0, "a", null, true)
	sets(t, s, 0, "b", null, true)
	waits(t, s, 1)
	shaped(t, s, -1, 3)
	has(t, s, 2, numbered(instance(0, "x y a b", integer(0), integer(1), null, null), instance(0, "x y"))...)
}

// P11.7: as long as there are fewer than 200 shapes, each object has one.
func TestShapesUntilThereAreAll(t *testing.T) {
	s := New(classes("x"))
	for n := range 230 {
		allocs(t, s, n, instance(0, "x"))
		sets(t, s, n, "y"+strconv.Itoa(n), null, true)
		want := n + 1
		if n >= 199 {
			want = -1
		}
		if got, ok := s.Shape(n); got != want || !ok {
			t.Errorf("Shape(%d) = %d, %t, want %d", n, got, ok, want)
		}
	}
}
