package heap

import (
	"math"
	"slices"
	"strings"
	"testing"

	"facsimile/api"
	"facsimile/value"
)

// eachKind returns one cell of each kind, and two more objects: one with 64 items, and one without any.
func eachKind() []api.Cell {
	return []api.Cell{object(0, integer(5), str("b")), array(integer(6), null, yes), closure(1, integer(7)), weak(ref(0)), object(0, repeat(64, null)...), object(0)}
}

// noCells returns values that denote nothing in a heap of eachKind, and are not unset.
func noCells() []api.Value {
	return append(wrongRefs(), null, yes, no, integer(0), integer(1), str(""), str("a"), function(0), function(1), api.Value{Kind: 7}, api.Value{Kind: -1, N: 1})
}

func wrongRefs() []api.Value {
	return []api.Value{ref(6), ref(-1), ref(1000000000), ref(math.MaxInt), ref(math.MinInt)}
}

// faulty checks that a function found this fault, and changed nothing.
func faulty(t *testing.T, h *Heap, what string, got, want string, v api.Value) {
	t.Helper()
	if got != want || v != unset {
		t.Errorf("%s: %s with %+v, want %s", what, got, v, want)
	}
	has(t, h, numbered(eachKind()...), len(eachKind()))
}

// P4.3: Get of fields that are there.
func TestGet(t *testing.T) {
	items := []api.Value{null, yes, integer(3), str("x"), ref(0), function(2)}
	h := with(t, object(4, items...))
	for n, name := range fields(6) {
		if v, fault := h.Get(ref(0), name); v != items[n] || fault != "" {
			t.Errorf("Get of %s = %s, %s", name, value.Text(v), fault)
		}
	}
}

// P4.3: the faults of Get.
func TestGetFaults(t *testing.T) {
	h := with(t, eachKind()...)
	for _, name := range []string{"a", "c", ""} {
		for _, v := range append(noCells(), ref(1), ref(2), ref(3)) {
			got, fault := h.Get(v, name)
			faulty(t, h, "Get of "+value.Text(v), fault, "type", got)
		}
		for _, v := range []api.Value{unset, {N: 5}, {S: "a"}} {
			got, fault := h.Get(v, name)
			faulty(t, h, "Get of unset", fault, "unset", got)
		}
	}
	for _, name := range []string{"", "c", "A", "aa", "a ", " a"} {
		got, fault := h.Get(ref(0), name)
		faulty(t, h, "Get of "+name, fault, "field", got)
	}
	got, fault := h.Get(ref(5), "a")
	faulty(t, h, "Get of an object without fields", fault, "field", got)
}

// P4.3: Set of fields that are there, and of new ones.
func TestSet(t *testing.T) {
	h := with(t, object(4, null, null))
	for n, c := range []struct {
		name  string
		x     api.Value
		added bool
		names []string
		items []api.Value
	}{
		{"b", integer(1), false, []string{"a", "b"}, []api.Value{null, integer(1)}},
		{"a", str("s"), false, []string{"a", "b"}, []api.Value{str("s"), integer(1)}},
		{"a", ref(0), false, []string{"a", "b"}, []api.Value{ref(0), integer(1)}},
		{"B", function(2), true, []string{"a", "b", "B"}, []api.Value{ref(0), integer(1), function(2)}},
		{"B", null, false, []string{"a", "b", "B"}, []api.Value{ref(0), integer(1), null}},
		{" ", ref(77), true, []string{"a", "b", "B", " "}, []api.Value{ref(0), integer(1), null, ref(77)}},
	} {
		if added, fault := h.Set(ref(0), c.name, c.x); added != c.added || fault != "" {
			t.Errorf("%d: Set of %s = %t, %s", n, c.name, added, fault)
		}
		has(t, h, numbered(api.Cell{Kind: api.Object, Class: 4, Names: c.names, Items: c.items}), 1)
	}
}

// P4.3: a field is added up to 64, and none beyond; those that are there can still be set.
func TestSetUpTo64(t *testing.T) {
	h := with(t, object(0))
	for n, name := range fields(64) {
		if added, fault := h.Set(ref(0), name, integer(n)); !added || fault != "" {
			t.Fatalf("Set of %d = %t, %s", n, added, fault)
		}
	}
	for _, name := range []string{"new", "", "A"} {
		if added, fault := h.Set(ref(0), name, null); added || fault != "range" {
			t.Errorf("Set of %s = %t, %s", name, added, fault)
		}
	}
	if added, fault := h.Set(ref(0), "a", yes); added || fault != "" {
		t.Errorf("Set of a = %t, %s", added, fault)
	}
	c, _ := h.Cell(0)
	if len(c.Items) != 64 || c.Items[0] != yes || c.Items[63] != integer(63) || !slices.Equal(c.Names, fields(64)) || !Right(c) {
		t.Errorf("the object has %d items", len(c.Items))
	}
}

// P4.3: the faults of Set, and their order.
func TestSetFaults(t *testing.T) {
	h := with(t, eachKind()...)
	set := func(v api.Value, name string, x api.Value, want string) {
		t.Helper()
		added, fault := h.Set(v, name, x)
		if added {
			t.Error("Set returns true")
		}
		faulty(t, h, "Set of "+value.Text(v), fault, want, unset)
	}
	for _, v := range append(noCells(), ref(0), ref(1), ref(4)) {
		set(v, "", unset, "unset")
		set(v, "a", api.Value{S: "x"}, "unset")
		set(unset, "", v, "unset")
		set(api.Value{N: 1}, "a", v, "unset")
	}
	for _, v := range append(noCells(), ref(1), ref(2), ref(3)) {
		set(v, "", null, "type")
		set(v, "a", null, "type")
	}
	set(ref(0), "", null, "range")
	set(ref(5), "", null, "range")
	set(ref(4), "new", null, "range")
	set(ref(4), "", null, "range")
}

// P4.4: At and Put of each index.
func TestAtAndPut(t *testing.T) {
	for _, size := range list(1, 2, 64) {
		h := with(t, array(repeat(size, null)...))
		for n := range size {
			if v, fault := h.At(ref(0), integer(n)); v != null || fault != "" {
				t.Errorf("At(%d) of %d = %s, %s", n, size, value.Text(v), fault)
			}
			want, _ := h.Cell(0)
			want.Items[n] = integer(n)
			if fault := h.Put(ref(0), integer(n), integer(n)); fault != "" {
				t.Errorf("Put(%d) of %d = %s", n, size, fault)
			}
			has(t, h, numbered(want), 1)
			if v, fault := h.At(ref(0), integer(n)); v != integer(n) || fault != "" {
				t.Errorf("At(%d) of %d = %s, %s", n, size, value.Text(v), fault)
			}
		}
	}
}

// P4.4: the faults of At and Put, and their order.
func TestAtAndPutFaults(t *testing.T) {
	h := with(t, append(eachKind()[:5:5], array())...)
	cells := numbered(append(eachKind()[:5:5], array())...)
	check := func(v, index, x api.Value, want string) {
		t.Helper()
		if x.Kind != api.Unset {
			if got, fault := h.At(v, index); got != unset || fault != want {
				t.Errorf("At(%+v, %+v) = %+v, %s, want %s", v, index, got, fault, want)
			}
		}
		if fault := h.Put(v, index, x); fault != want {
			t.Errorf("Put(%+v, %+v, %+v) = %s, want %s", v, index, x, fault, want)
		}
		has(t, h, cells, 6)
	}
	indices := append(noCells(), ref(0), integer(-1), integer(3))
	for _, v := range append(noCells(), ref(0), ref(1), ref(2), ref(3)) {
		for _, index := range indices {
			check(unset, index, v, "unset")
			check(v, unset, index, "unset")
			check(v, index, unset, "unset")
			check(v, index, api.Value{N: 1, S: "a"}, "unset")
		}
	}
	for _, v := range append(noCells(), ref(0), ref(2), ref(3), ref(4)) {
		for _, index := range indices {
			check(v, index, null, "type")
		}
	}
	for _, index := range indices {
		if index.Kind != api.Int {
			check(ref(1), index, null, "type")
			check(ref(5), index, null, "type")
		}
	}
	for _, n := range list(-1, 3, 4, 64, math.MinInt, math.MaxInt) {
		check(ref(1), integer(n), null, "bounds")
		check(ref(5), integer(n), null, "bounds")
	}
	check(ref(5), integer(0), null, "bounds")
}

// P4.4: Len of arrays and strings, and its faults.
func TestLen(t *testing.T) {
	h := with(t, eachKind()...)
	for _, n := range list(0, 1, 63, 64) {
		h := with(t, array(repeat(n, null)...))
		if v, fault := h.Len(ref(0)); v != integer(n) || fault != "" {
			t.Errorf("Len of %d items = %s, %s", n, value.Text(v), fault)
		}
	}
	for s, want := range map[string]int{"": 0, "a": 1, "it's": 4, "@1": 2, "é": 2, strings.Repeat("a", 200): 200, strings.Repeat("a", 201): 201} {
		if v, fault := h.Len(str(s)); v != integer(want) || fault != "" {
			t.Errorf("Len of %d bytes = %s, %s", len(s), value.Text(v), fault)
		}
	}
	for _, v := range append(noCells(), ref(0), ref(2), ref(3)) {
		if v.Kind != api.Str {
			got, fault := h.Len(v)
			faulty(t, h, "Len of "+value.Text(v), fault, "type", got)
		}
	}
	for _, v := range []api.Value{unset, {N: 1}, {S: "abc"}} {
		got, fault := h.Len(v)
		faulty(t, h, "Len of unset", fault, "unset", got)
	}
}

// P4.4: Deref of weak cells, and its faults.
func TestDeref(t *testing.T) {
	h := with(t, weak(ref(1)), weak(null), weak(ref(0)), weak(ref(99)))
	for id, want := range []api.Value{ref(1), null, ref(0), ref(99)} {
		if v, fault := h.Deref(ref(id)); v != want || fault != "" {
			t.Errorf("Deref of %d = %s, %s", id, value.Text(v), fault)
		}
	}
	h = with(t, eachKind()...)
	for _, v := range append(noCells(), ref(0), ref(1), ref(2)) {
		got, fault := h.Deref(v)
		faulty(t, h, "Deref of "+value.Text(v), fault, "type", got)
	}
	for _, v := range []api.Value{unset, {N: 3}} {
		got, fault := h.Deref(v)
		faulty(t, h, "Deref of unset", fault, "unset", got)
	}
}

// P4.3, P4.4: values that are not right have no fault of their own: a ref is what its Kind and N say, and any x becomes the item.
func TestValuesThatAreNotRight(t *testing.T) {
	named := func(id int) api.Value { return api.Value{Kind: api.Ref, N: id, S: "a"} }
	h := with(t, eachKind()...)
	if v, fault := h.Get(named(0), "a"); v != integer(5) || fault != "" {
		t.Errorf("Get = %+v, %s", v, fault)
	}
	if v, fault := h.At(named(1), api.Value{Kind: api.Int, N: 2, S: "a"}); v != yes || fault != "" {
		t.Errorf("At = %+v, %s", v, fault)
	}
	for _, x := range wrongValues() {
		if added, fault := h.Set(ref(0), "b", x); added || fault != "" {
			t.Errorf("Set of %+v = %t, %s", x, added, fault)
		}
		if fault := h.Put(ref(1), integer(0), x); fault != "" {
			t.Errorf("Put of %+v = %s", x, fault)
		}
		got, _ := h.Get(ref(0), "b")
		if item, _ := h.At(ref(1), integer(0)); got != x || item != x {
			t.Errorf("%+v, and %+v, want %+v", got, item, x)
		}
		h.Reach(append(only(0), x))
		h.Visible(append(only(0), x))
	}
	h.Keep(list(0))
}
