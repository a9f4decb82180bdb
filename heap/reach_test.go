package heap

import (
	"math"
	"slices"
	"testing"

	"facsimile/api"
	"facsimile/value"
)

// graph returns cells of all kinds that hold each other: 0 to 2 are a cycle, 3 holds itself, 4 leads by a weak cell 5 to 6, 7 by weak cells 8 and 9 to 10, and nothing leads to 11, which leads to 0.
func graph() []api.Cell {
	return []api.Cell{
		array(ref(1)), object(0, null, ref(2)), closure(0, integer(7), ref(0), ref(2)),
		array(ref(3), ref(3)),
		object(0, ref(5)), weak(ref(6)), array(integer(4), function(4)),
		closure(0, ref(8)), weak(ref(9)), weak(ref(10)), object(0, ref(3)),
		array(ref(4), ref(0)),
	}
}

// refs returns a ref for each id.
func refs(ids ...int) []api.Value {
	var l []api.Value
	for _, id := range ids {
		l = append(l, ref(id))
	}
	return l
}

// P4.5: what is reached, and what is visible.
func TestReachAndVisible(t *testing.T) {
	h := with(t, graph()...)
	for n, c := range []struct {
		roots          []api.Value
		reach, visible []int
	}{
		{nil, nil, nil},
		{refs(0), list(0, 1, 2), list(0, 1, 2)},
		{refs(1), list(0, 1, 2), list(0, 1, 2)},
		{refs(2), list(0, 1, 2), list(0, 1, 2)},
		{refs(3), list(3), list(3)},
		{refs(4), list(4, 5), list(4, 5, 6)},
		{refs(5), list(5), list(5, 6)},
		{refs(6), list(6), list(6)},
		{refs(7), list(7, 8), list(3, 7, 8, 9, 10)},
		{refs(8), list(8), list(3, 8, 9, 10)},
		{refs(9), list(9), list(3, 9, 10)},
		{refs(10), list(3, 10), list(3, 10)},
		{refs(11), list(0, 1, 2, 4, 5, 11), list(0, 1, 2, 4, 5, 6, 11)},
		{refs(10, 4), list(3, 4, 5, 10), list(3, 4, 5, 6, 10)},
		{refs(6, 5, 5, 6), list(5, 6), list(5, 6)},
		{refs(5, 3), list(3, 5), list(3, 5, 6)},
		{refs(8, 10, 9), list(3, 8, 9, 10), list(3, 8, 9, 10)},
		// Roots that are no refs, or denote nothing.
		{[]api.Value{integer(3), function(3), str("@3"), null, unset, {N: 3}, yes, {Kind: 7, N: 3}, {Kind: -1, N: 3}}, nil, nil},
		{refs(-1, 12, 1000000000, math.MaxInt, math.MinInt), nil, nil},
		{[]api.Value{ref(12), integer(0), ref(6), null}, list(6), list(6)},
	} {
		if got := h.Reach(c.roots); !slices.Equal(got, c.reach) {
			t.Errorf("case %d: Reach = %v, want %v", n, got, c.reach)
		}
		if got := h.Visible(c.roots); !slices.Equal(got, c.visible) {
			t.Errorf("case %d: Visible = %v, want %v", n, got, c.visible)
		}
	}
	has(t, h, numbered(graph()...), 12)
}

// P4.5: items that denote nothing lead to nothing.
func TestReachOfRefsToNothing(t *testing.T) {
	h := with(t, array(ref(50), ref(2), ref(1)), weak(ref(60)), object(0, ref(70)))
	for _, got := range [][]int{h.Reach(refs(0)), h.Visible(refs(0))} {
		if !slices.Equal(got, list(0, 1, 2)) {
			t.Errorf("reached are %v", got)
		}
	}
}

// P4.5, P1: as long a chain as there may be, forwards and backwards, of arrays and of weak cells.
func TestLongChains(t *testing.T) {
	for _, link := range []func(api.Value) api.Cell{func(v api.Value) api.Cell { return array(v) }, weak} {
		var forwards, backwards []api.Cell
		for id := range 8000 {
			forwards = append(forwards, link(ref(id+1)))
			backwards = append(backwards, link(ref(max(0, id-1))))
		}
		forwards[7999] = link(ref(0))
		leads := link(null).Kind != api.Weak
		for n, h := range []*Heap{loaded(t, numbered(forwards...), 8000), loaded(t, numbered(backwards...), 8000)} {
			for _, root := range list(0, 7999) {
				many := n == 0 || root == 7999
				reach, visible := h.Reach(refs(root)), h.Visible(refs(root))
				if (len(visible) == 8000) != many || !slices.IsSorted(visible) || !slices.Contains(visible, root) {
					t.Errorf("from %d on %d are visible", root, len(visible))
				}
				if (len(reach) == 8000) != (many && leads) || !slices.IsSorted(reach) || !leads && !slices.Equal(reach, list(root)) {
					t.Errorf("from %d on %d are reached", root, len(reach))
				}
			}
		}
	}
}

// P4.6: Keep of ids, in any order.
func TestKeep(t *testing.T) {
	all := list(0, 1, 2, 3, 4, 5, 6, 7, 8, 9, 10, 11)
	for n, c := range []struct{ ids, left []int }{
		{nil, nil},
		{all, all},
		{list(12, -1, math.MaxInt, math.MinInt), nil},
		{list(5), list(5)},
		{list(11, 5, 0), list(0, 5, 11)},
		{list(5, 5, 6, 5, 6), list(5, 6)},
		{list(99, 3, -7, 3, 12), list(3)},
		{list(8, 10), list(8, 10)},
		{list(8, 9), list(8, 9)},
		{all[1:], all[1:]},
		{all[:11], all[:11]},
	} {
		h := with(t, graph()...)
		given := slices.Clone(c.ids)
		var removed []int
		for _, id := range all {
			if !slices.Contains(c.left, id) {
				removed = append(removed, id)
			}
		}
		if got := h.Keep(c.ids); !slices.Equal(got, removed) || !slices.Equal(c.ids, given) {
			t.Errorf("case %d: Keep = %v, want %v", n, got, removed)
		}
		want := []api.Entry{}
		for _, id := range c.left {
			want = append(want, api.Entry{Id: id, Cell: graph()[id]})
			target := want[len(want)-1].Cell.Items[0]
			if want[len(want)-1].Cell.Kind == api.Weak && !slices.Contains(c.left, target.N) {
				want[len(want)-1].Cell.Items[0] = null
			}
		}
		has(t, h, want, 12)
		for _, id := range removed {
			if _, ok := h.Cell(id); ok {
				t.Errorf("case %d: %d is still there", n, id)
			}
		}
		if got := h.Keep(append(slices.Clone(c.ids), c.ids...)); len(got) > 0 {
			t.Errorf("case %d: Keep = %v the second time", n, got)
		}
		has(t, h, want, 12)
	}
}

// P4.6: items become nil in weak cells alone, and only those that denote a removed cell.
func TestKeepChangesWeakCells(t *testing.T) {
	l := []api.Cell{array(), weak(ref(0)), array(ref(0)), object(1, ref(0)), closure(1, ref(0)), weak(ref(2)), weak(null), weak(ref(90)), array(integer(0), function(0), str("@0")), weak(ref(7))}
	h := with(t, l...)
	if got := h.Keep(list(1, 2, 3, 4, 5, 6, 7, 8, 9)); !slices.Equal(got, list(0)) {
		t.Errorf("Keep = %v", got)
	}
	l[1] = weak(null)
	has(t, h, numbered(l...)[1:], 10)
	if v, fault := h.At(ref(2), integer(0)); v != ref(0) || fault != "" {
		t.Errorf("At = %s, %s", value.Text(v), fault)
	}
	// What is nil now does not become anything else, and ids that are gone are not given again.
	if id, e := h.Alloc(weak(ref(0))); id != 10 || e != api.OK {
		t.Errorf("Alloc = %d, %d", id, e)
	}
	if got := h.Keep(list(1, 10)); !slices.Equal(got, list(2, 3, 4, 5, 6, 7, 8, 9)) {
		t.Errorf("Keep = %v", got)
	}
	has(t, h, []api.Entry{{Id: 1, Cell: weak(null)}, {Id: 10, Cell: weak(ref(0))}}, 11)
}

// P4.6: an empty heap stays one, and its ids go on.
func TestKeepNothing(t *testing.T) {
	h := with(t, array(), weak(ref(0)))
	if got := h.Keep(nil); !slices.Equal(got, list(0, 1)) {
		t.Errorf("Keep = %v", got)
	}
	has(t, h, nil, 2)
	if id, e := h.Alloc(array()); id != 2 || e != api.OK {
		t.Errorf("Alloc = %d, %d", id, e)
	}
}

// P4.5, P4.6, R5: lists that are far longer than a heap.
func TestLongLists(t *testing.T) {
	h := with(t, graph()...)
	if got := h.Reach(repeat(3000000, ref(5))); !slices.Equal(got, list(5)) {
		t.Errorf("Reach = %v", got)
	}
	if got := h.Visible(append(repeat(3000000, ref(99)), ref(5))); !slices.Equal(got, list(5, 6)) {
		t.Errorf("Visible = %v", got)
	}
	var ids []int
	for n := range 3000000 {
		ids = append(ids, n+1)
	}
	if got := h.Keep(ids); !slices.Equal(got, list(0)) {
		t.Errorf("Keep = %v", got)
	}
}
