package heap

import (
	"math"
	"strings"
	"testing"

	"facsimile/api"
)

// rightCells returns right cells of each kind, with the bounds of all fields.
func rightCells() []api.Cell {
	l := []api.Cell{
		object(0), object(11, null), object(math.MaxInt, yes, no, integer(5), str("a"), ref(0), function(3)),
		array(), array(null, yes, no, integer(-api.MaxInt), integer(api.MaxInt), str(strings.Repeat("~", 200)), str(""), ref(1000000000), function(23)),
		closure(0), closure(23, null), closure(math.MaxInt, ref(5), ref(5)),
		weak(null), weak(ref(0)), weak(ref(1000000000)),
		{Kind: api.Array, Names: []string{}, Items: []api.Value{}},
		{Kind: api.Object, Names: []string{"X", "x", " ", "\n", "é", "\xff", "new", strings.Repeat("n", 1000)}, Items: repeat(8, null)},
	}
	for _, c := range []api.Cell{object(1, repeat(64, integer(7))...), array(repeat(64, ref(9))...), closure(1, repeat(64, str("a"))...)} {
		l = append(l, c)
	}
	for tenant := range 4 {
		for _, c := range []api.Cell{object(0, null), array(null), closure(0, null), weak(null)} {
			c.Tenant = tenant
			l = append(l, c)
		}
	}
	return l
}

// wrongCells returns cells that are not right for one reason, by this reason.
func wrongCells() map[string][]api.Cell {
	l := map[string][]api.Cell{
		"object, class":     {object(-1), object(math.MinInt, null)},
		"object, fun":       {{Kind: api.Object, Fun: 1}, {Kind: api.Object, Fun: -1}},
		"object, few names": {{Kind: api.Object, Items: repeat(1, null)}, {Kind: api.Object, Names: fields(1), Items: repeat(2, null)}},
		"object, names":     {{Kind: api.Object, Names: fields(1)}, {Kind: api.Object, Names: fields(3), Items: repeat(2, null)}},
		"object, empty":     {{Kind: api.Object, Names: []string{""}, Items: repeat(1, null)}, {Kind: api.Object, Names: []string{"a", "b", ""}, Items: repeat(3, null)}},
		"object, twice":     {{Kind: api.Object, Names: []string{"a", "a"}, Items: repeat(2, null)}, {Kind: api.Object, Names: []string{"a", "b", "c", "a"}, Items: repeat(4, null)}, {Kind: api.Object, Names: append(fields(63), "a"), Items: repeat(64, null)}},
		"array, class":      {{Kind: api.Array, Class: 1}, {Kind: api.Array, Class: -1}},
		"array, fun":        {{Kind: api.Array, Fun: 1}, {Kind: api.Array, Fun: -1}},
		"array, names":      {{Kind: api.Array, Names: fields(1)}, {Kind: api.Array, Names: fields(1), Items: repeat(1, null)}, {Kind: api.Array, Names: []string{""}}},
		"closure, class":    {{Kind: api.Closure, Class: 1}, {Kind: api.Closure, Class: -1}},
		"closure, fun":      {closure(-1), closure(math.MinInt, null)},
		"closure, names":    {{Kind: api.Closure, Names: fields(1)}, {Kind: api.Closure, Names: fields(1), Items: repeat(1, null)}},
		"weak, class":       {{Kind: api.Weak, Class: 1, Items: repeat(1, null)}, {Kind: api.Weak, Class: -1, Items: only(0)}},
		"weak, fun":         {{Kind: api.Weak, Fun: 1, Items: repeat(1, null)}, {Kind: api.Weak, Fun: -1, Items: only(0)}},
		"weak, names":       {{Kind: api.Weak, Names: fields(1), Items: repeat(1, null)}},
		"weak, items":       {{Kind: api.Weak}, {Kind: api.Weak, Items: repeat(2, null)}, {Kind: api.Weak, Items: repeat(2, ref(0))}},
		"weak, target":      {weak(yes), weak(integer(0)), weak(str("")), weak(function(0))},
	}
	for _, kind := range list(math.MinInt, -1, 0, 5, 6, 100, math.MaxInt) {
		l["kind"] = append(l["kind"], api.Cell{Kind: kind}, api.Cell{Kind: kind, Items: only(0)}, api.Cell{Kind: kind, Items: repeat(1, null), Names: fields(1)})
	}
	for _, c := range []api.Cell{object(0, null), array(null), closure(0, null), weak(null)} {
		for _, tenant := range list(math.MinInt, -1, 4, math.MaxInt) {
			c.Tenant = tenant
			l["tenant"] = append(l["tenant"], c)
		}
	}
	for _, n := range list(65, 66, 100000) {
		l["65 items"] = append(l["65 items"], array(repeat(n, null)...), closure(0, repeat(n, null)...), object(0, repeat(n, null)...), api.Cell{Kind: api.Weak, Items: repeat(n, null)})
	}
	for _, v := range append(wrongValues(), unset, api.Value{N: 1}, api.Value{S: "a"}) {
		l["item"] = append(l["item"], object(0, v), array(v), closure(0, v), weak(v), array(append(repeat(63, null), v)...), object(0, v, null))
	}
	return l
}

// P4.1: Right of cells with the bounds of all fields.
func TestRight(t *testing.T) {
	for _, c := range rightCells() {
		if !Right(c) {
			t.Errorf("Right(%s) is false", brief(c))
		}
	}
}

// P4.1, P4.2: cells that are not right are refused everywhere.
func TestWrongCells(t *testing.T) {
	for reason, l := range wrongCells() {
		for _, c := range l {
			if Right(c) {
				t.Errorf("%s: Right(%s) is true", reason, brief(c))
			}
			h := with(t, array())
			if id, e := h.Alloc(c); id != 0 || e != api.ErrArg {
				t.Errorf("%s: Alloc(%s) = %d, %d", reason, brief(c), id, e)
			}
			has(t, h, numbered(array()), 1)
			// The refs of the cell denote one.
			for _, entries := range [][]api.Entry{numbered(c), numbered(c, array()), numbered(array(), c)} {
				if h, e := Load(entries, 5); h != nil || e != api.ErrArg {
					t.Errorf("%s: Load of %s = %d", reason, brief(c), e)
				}
			}
		}
	}
}

// P4.1, P4.2: right cells are taken as they are.
func TestRightCells(t *testing.T) {
	h := New()
	for want, c := range rightCells() {
		if id, e := h.Alloc(c); id != want || e != api.OK {
			t.Errorf("Alloc(%s) = %d, %d, want %d", brief(c), id, e, want)
		}
	}
	has(t, h, numbered(rightCells()...), len(rightCells()))
}

// P4.1: 16 bytes, and 8 for each item, of any cells.
func TestSize(t *testing.T) {
	for _, n := range list(0, 1, 2, 63, 64, 65, 1000) {
		for _, c := range []api.Cell{array(repeat(n, null)...), object(3, repeat(n, unset)...), closure(1, repeat(n, ref(3))...), {Items: repeat(n, null)}} {
			if got := Size(c); got != 16+8*n {
				t.Errorf("Size of %d items = %d", n, got)
			}
		}
	}
	if got := Size(api.Cell{Names: fields(9)}); got != 16 {
		t.Errorf("Size of names = %d", got)
	}
}
