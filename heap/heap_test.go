package heap

import (
	"math"
	"reflect"
	"slices"
	"strconv"
	"strings"
	"testing"

	"facsimile/api"
	"facsimile/value"
)

// Values of each kind.
var (
	unset = api.Value{}
	null  = api.Value{Kind: api.Nil}
	no    = api.Value{Kind: api.Bool}
	yes   = api.Value{Kind: api.Bool, N: 1}
)

func integer(n int) api.Value       { return api.Value{Kind: api.Int, N: n} }
func str(s string) api.Value        { return api.Value{Kind: api.Str, S: s} }
func ref(id int) api.Value          { return api.Value{Kind: api.Ref, N: id} }
func function(n int) api.Value      { return api.Value{Kind: api.Fun, N: n} }
func list(l ...int) []int           { return l }
func only(id int) []api.Value       { return []api.Value{ref(id)} }
func weak(v api.Value) api.Cell     { return api.Cell{Kind: api.Weak, Items: []api.Value{v}} }
func array(l ...api.Value) api.Cell { return api.Cell{Kind: api.Array, Items: l} }

func closure(fun int, l ...api.Value) api.Cell {
	return api.Cell{Kind: api.Closure, Fun: fun, Items: l}
}

// object has the fields a, b and so on.
func object(class int, l ...api.Value) api.Cell {
	return api.Cell{Kind: api.Object, Class: class, Names: fields(len(l)), Items: l}
}

// fields returns n names that are different.
func fields(n int) []string {
	var l []string
	for k := range n {
		l = append(l, string(rune('a'+k%26))+strings.Repeat("z", k/26))
	}
	return l
}

// repeat returns n times the value.
func repeat(n int, v api.Value) []api.Value { return slices.Repeat([]api.Value{v}, n) }

// wrongValues returns values that are not right, and are not unset.
func wrongValues() []api.Value {
	return []api.Value{
		{Kind: -1}, {Kind: 7}, {Kind: math.MaxInt}, {Kind: math.MinInt}, {Kind: api.Nil, N: 1}, {Kind: api.Nil, S: "a"},
		{Kind: api.Bool, N: 2}, {Kind: api.Bool, N: -1}, {Kind: api.Bool, S: "a"},
		integer(api.MaxInt + 1), integer(-api.MaxInt - 1), {Kind: api.Int, S: "a"},
		{Kind: api.Str, N: 1}, str(strings.Repeat("a", 201)), str("\n"), str("\x7f"),
		ref(-1), ref(1000000001), {Kind: api.Ref, S: "a"}, function(-1), function(24), {Kind: api.Fun, S: "a"},
	}
}

// same tells whether cells are equal; a list that is nil is an empty one.
func same(a, b api.Cell) bool {
	return a.Kind == b.Kind && a.Class == b.Class && a.Fun == b.Fun && a.Tenant == b.Tenant &&
		slices.Equal(a.Names, b.Names) && slices.Equal(a.Items, b.Items)
}

func sameEntries(a, b []api.Entry) bool {
	return slices.EqualFunc(a, b, func(x, y api.Entry) bool { return x.Id == y.Id && same(x.Cell, y.Cell) })
}

// brief is a cell in a message.
func brief(c api.Cell) string {
	if len(c.Items) > 4 || len(c.Names) > 4 {
		return strconv.Itoa(len(c.Items)) + " items"
	}
	l := []string{"kind " + strconv.Itoa(c.Kind), strconv.Itoa(c.Class), strconv.Itoa(c.Fun), strconv.Itoa(c.Tenant), strings.Join(c.Names, ",")}
	for _, v := range c.Items {
		l = append(l, value.Text(v))
	}
	return strings.Join(l, " ")
}

// with returns a heap whose cells have the ids 0, 1 and so on.
func with(t *testing.T, l ...api.Cell) *Heap {
	t.Helper()
	h := New()
	for want, c := range l {
		if id, e := h.Alloc(c); id != want || e != api.OK {
			t.Fatalf("Alloc(%s) = %d, %d, want %d", brief(c), id, e, want)
		}
	}
	return h
}

// loaded returns a heap with these cells.
func loaded(t *testing.T, l []api.Entry, next int) *Heap {
	t.Helper()
	h, e := Load(l, next)
	if h == nil || e != api.OK {
		t.Fatalf("Load of %d cells with %d = %d", len(l), next, e)
	}
	return h
}

// has checks what is in a heap.
func has(t *testing.T, h *Heap, want []api.Entry, next int) {
	t.Helper()
	if got := h.Entries(); !sameEntries(got, want) {
		t.Fatalf("Entries are %d cells, want %d, or they differ", len(got), len(want))
	}
	if got := h.Next(); got != next {
		t.Fatalf("Next = %d, want %d", got, next)
	}
	for _, e := range want {
		if c, ok := h.Cell(e.Id); !ok || !same(c, e.Cell) {
			t.Fatalf("Cell(%d) = %s, %t, want %s", e.Id, brief(c), ok, brief(e.Cell))
		}
	}
}

// numbered gives cells the ids 0, 1 and so on.
func numbered(l ...api.Cell) []api.Entry {
	var entries []api.Entry
	for id, c := range l {
		entries = append(entries, api.Entry{Id: id, Cell: c})
	}
	return entries
}

// full returns as many cells as there may be.
func full() []api.Entry {
	return numbered(slices.Repeat([]api.Cell{array()}, 8000)...)
}

// The examples of the chapter.
func TestExamples(t *testing.T) {
	h := New()
	point := api.Cell{Kind: api.Object, Names: []string{"x"}, Items: []api.Value{null}}
	if id, e := h.Alloc(point); id != 0 || e != api.OK {
		t.Errorf("Alloc = %d, %d", id, e)
	}
	if added, fault := h.Set(ref(0), "x", integer(5)); added || fault != "" {
		t.Errorf("Set of x = %t, %s", added, fault)
	}
	if added, fault := h.Set(ref(0), "y", yes); !added || fault != "" {
		t.Errorf("Set of y = %t, %s", added, fault)
	}
	if c, ok := h.Cell(0); !ok || Size(c) != 32 {
		t.Errorf("Size = %d, %t", Size(c), ok)
	}
	if v, fault := h.Get(ref(0), "z"); v != unset || fault != "field" {
		t.Errorf("Get of z = %s, %s", value.Text(v), fault)
	}
	if v, fault := h.At(ref(0), integer(0)); v != unset || fault != "type" {
		t.Errorf("At = %s, %s", value.Text(v), fault)
	}
	if v, fault := h.Get(null, "x"); v != unset || fault != "type" {
		t.Errorf("Get of nil = %s, %s", value.Text(v), fault)
	}
	if id, e := h.Alloc(weak(ref(0))); id != 1 || e != api.OK {
		t.Errorf("Alloc of a weak cell = %d, %d", id, e)
	}
	if got := h.Reach(only(1)); !slices.Equal(got, list(1)) {
		t.Errorf("Reach = %v", got)
	}
	if got := h.Keep(list(1)); !slices.Equal(got, list(0)) {
		t.Errorf("Keep = %v", got)
	}
	if v, fault := h.Deref(ref(1)); v != null || fault != "" {
		t.Errorf("Deref = %s, %s", value.Text(v), fault)
	}
	if got := h.Show(nil, nil, ref(1)); got != "<weak>" {
		t.Errorf("Show of the weak cell = %s", got)
	}
	if got := h.Show(nil, nil, str("a b")); got != "a b" {
		t.Errorf("Show of a string = %s", got)
	}
}

// P4.1: a new heap has no cells, and its next id is 0.
func TestNew(t *testing.T) {
	h := New()
	if h == nil {
		t.Fatal("New returns nil")
	}
	has(t, h, nil, 0)
	if other := New(); other == h {
		t.Error("New returns the same heap twice")
	}
}

// P4.1: what Load accepts.
func TestLoad(t *testing.T) {
	most := math.MaxInt
	for _, c := range []struct {
		l    []api.Entry
		next int
	}{
		{nil, 0}, {nil, 1}, {nil, most}, {[]api.Entry{}, 7},
		{[]api.Entry{{Id: 0, Cell: array()}}, 1},
		{[]api.Entry{{Id: 0, Cell: array()}}, 2},
		{[]api.Entry{{Id: 3, Cell: array()}, {Id: 4, Cell: closure(1)}, {Id: 9, Cell: object(2, null)}}, 10},
		{[]api.Entry{{Id: most - 1, Cell: array()}}, most},
		// Refs to a cell itself, to later ones, and in all kinds of cells.
		{numbered(array(ref(0))), 1},
		{numbered(array(ref(1)), object(0, ref(2)), closure(0, ref(3)), weak(ref(0))), 4},
		{[]api.Entry{{Id: 5, Cell: weak(ref(7))}, {Id: 7, Cell: weak(ref(7))}}, 8},
		{[]api.Entry{{Id: 1000000000, Cell: weak(ref(1000000000))}}, 1000000001},
		{numbered(array(integer(5), function(6), str("7"))), 1},
		{full(), 8000},
	} {
		has(t, loaded(t, c.l, c.next), c.l, c.next)
	}
}

// P4.1: what Load refuses, and why.
func TestLoadErrors(t *testing.T) {
	tooMany := append(full(), api.Entry{Id: 8000, Cell: array()})
	manyWrong := slices.Repeat([]api.Entry{{Id: -1}}, 8001)
	lastWrong := full()
	lastWrong[7999].Cell = array(ref(8000))
	for n, c := range []struct {
		l    []api.Entry
		next int
		want api.Errno
	}{
		{tooMany, 8001, api.ErrMany},
		{manyWrong, -1, api.ErrMany},
		{lastWrong, 8000, api.ErrArg},
		{full(), 7999, api.ErrArg},
		{nil, -1, api.ErrArg},
		{nil, math.MinInt, api.ErrArg},
		{numbered(array()), -1, api.ErrArg},
		{numbered(array()), 0, api.ErrArg},
		{[]api.Entry{{Id: -1, Cell: array()}}, 5, api.ErrArg},
		{[]api.Entry{{Id: math.MinInt, Cell: array()}}, 5, api.ErrArg},
		{[]api.Entry{{Id: 5, Cell: array()}}, 5, api.ErrArg},
		{[]api.Entry{{Id: 9, Cell: array()}}, 5, api.ErrArg},
		{[]api.Entry{{Id: math.MaxInt, Cell: array()}}, math.MaxInt, api.ErrArg},
		{[]api.Entry{{Id: 0, Cell: array()}, {Id: 0, Cell: array()}}, 5, api.ErrArg},
		{[]api.Entry{{Id: 1, Cell: array()}, {Id: 0, Cell: array()}}, 5, api.ErrArg},
		{[]api.Entry{{Id: 0, Cell: array()}, {Id: 2, Cell: array()}, {Id: 1, Cell: array()}}, 5, api.ErrArg},
		{[]api.Entry{{Id: 0, Cell: array()}, {Id: 6, Cell: array()}, {Id: 7, Cell: array()}}, 7, api.ErrArg},
		{numbered(array(ref(1))), 1, api.ErrArg},
		{numbered(array(ref(1))), 2, api.ErrArg},
		{numbered(object(0, ref(1))), 2, api.ErrArg},
		{numbered(closure(0, ref(1))), 2, api.ErrArg},
		{numbered(weak(ref(1))), 2, api.ErrArg},
		{numbered(array(), array(null, ref(0), ref(2))), 3, api.ErrArg},
	} {
		if h, e := Load(c.l, c.next); h != nil || e != c.want {
			t.Errorf("case %d: Load = %t, %d, want %d", n, h != nil, e, c.want)
		}
	}
}

// P4.2: ids in order, up to 8000 cells, and again when there is room.
func TestAlloc(t *testing.T) {
	h := loaded(t, full(), 9000)
	if id, e := h.Alloc(array()); id != 0 || e != api.ErrMany {
		t.Errorf("Alloc of too many = %d, %d", id, e)
	}
	if id, e := h.Alloc(api.Cell{}); id != 0 || e != api.ErrArg {
		t.Errorf("Alloc of a wrong one too many = %d, %d", id, e)
	}
	has(t, h, full(), 9000)
	h.Keep(list(1))
	for want := 9000; want < 9000+7999; want++ {
		if id, e := h.Alloc(array()); id != want || e != api.OK {
			t.Fatalf("Alloc = %d, %d, want %d", id, e, want)
		}
	}
	if id, e := h.Alloc(array()); id != 0 || e != api.ErrMany {
		t.Errorf("Alloc of too many = %d, %d", id, e)
	}
}

// P4.2: refs that denote nothing are no reason against a cell; they denote it later.
func TestAllocOfRefs(t *testing.T) {
	h := with(t, array(ref(1), ref(500)), weak(ref(2)), array())
	has(t, h, numbered(array(ref(1), ref(500)), weak(ref(2)), array()), 3)
	if got := h.Visible(only(0)); !slices.Equal(got, list(0, 1, 2)) {
		t.Errorf("Visible = %v", got)
	}
}

// P4.2: the next id after the greatest one is that to which an int wraps around (R5).
func TestAllocWraps(t *testing.T) {
	h := loaded(t, nil, math.MaxInt)
	for _, want := range list(math.MaxInt, math.MinInt) {
		if id, e := h.Alloc(array()); id != want || e != api.OK {
			t.Errorf("Alloc = %d, %d, want %d", id, e, want)
		}
	}
	has(t, h, []api.Entry{{Id: math.MinInt, Cell: array()}, {Id: math.MaxInt, Cell: array()}}, math.MinInt+1)
}

// P4.2: there is no cell with another id.
func TestCell(t *testing.T) {
	h := loaded(t, []api.Entry{{Id: 3, Cell: object(1, yes)}, {Id: 5, Cell: weak(null)}}, 9)
	for _, id := range list(math.MinInt, -1, 0, 2, 4, 6, 8, 9, math.MaxInt) {
		if c, ok := h.Cell(id); ok || !reflect.DeepEqual(c, api.Cell{}) {
			t.Errorf("Cell(%d) = %s, %t", id, brief(c), ok)
		}
	}
	if c, ok := h.Cell(3); !ok || !same(c, object(1, yes)) {
		t.Errorf("Cell(3) = %s, %t", brief(c), ok)
	}
}

// P4.1 to P4.7: a nil heap, and a zero one, are without cells.
func TestNilAndZero(t *testing.T) {
	for name, h := range map[string]*Heap{"nil": nil, "zero": {}} {
		has(t, h, nil, 0)
		finds := func(v api.Value, fault, want string) {
			t.Helper()
			if v != unset || fault != want {
				t.Errorf("%s: %s, %s, want %s", name, value.Text(v), fault, want)
			}
		}
		for _, v := range []api.Value{ref(0), ref(-1), null, integer(0), str("a"), function(0), unset} {
			want := "type"
			if v == unset {
				want = "unset"
			}
			got, fault := h.Get(v, "x")
			finds(got, fault, want)
			got, fault = h.At(v, integer(0))
			finds(got, fault, want)
			got, fault = h.Deref(v)
			finds(got, fault, want)
			finds(unset, h.Put(v, integer(0), null), want)
			if added, fault := h.Set(v, "x", null); added || fault != want {
				t.Errorf("%s: Set = %t, %s, want %s", name, added, fault, want)
			}
			if v.Kind == api.Str {
				continue
			}
			got, fault = h.Len(v)
			finds(got, fault, want)
		}
		if v, fault := h.Len(str("abc")); v != integer(3) || fault != "" {
			t.Errorf("%s: Len of a string = %s, %s", name, value.Text(v), fault)
		}
		if len(h.Reach(only(0))) > 0 || len(h.Visible(only(0))) > 0 || len(h.Keep(list(0, 1))) > 0 || len(h.Keep(nil)) > 0 {
			t.Errorf("%s: cells are found", name)
		}
		if c, ok := h.Cell(0); ok || !reflect.DeepEqual(c, api.Cell{}) {
			t.Errorf("%s: Cell = %s, %t", name, brief(c), ok)
		}
		if got := h.Show(nil, nil, ref(0)); got != "<none>" {
			t.Errorf("%s: Show = %s", name, got)
		}
	}
}

// P4.2: Alloc returns ErrArg on nil, whatever the cell is; a zero heap gets the cell.
func TestAllocOnNilAndZero(t *testing.T) {
	var none *Heap
	for _, c := range []api.Cell{array(), object(0, null), {}} {
		if id, e := none.Alloc(c); id != 0 || e != api.ErrArg {
			t.Errorf("Alloc on nil = %d, %d", id, e)
		}
	}
	has(t, none, nil, 0)
	zero := &Heap{}
	if id, e := zero.Alloc(api.Cell{}); id != 0 || e != api.ErrArg {
		t.Errorf("Alloc of a wrong cell = %d, %d", id, e)
	}
	has(t, zero, nil, 0)
	for id := range 2 {
		if got, e := zero.Alloc(closure(id)); got != id || e != api.OK {
			t.Errorf("Alloc on zero = %d, %d", got, e)
		}
	}
	has(t, zero, numbered(closure(0), closure(1)), 2)
}

// R3: a heap shares no memory with cells that it gets, or returns.
func TestOwnMemory(t *testing.T) {
	spoil := func(c api.Cell) {
		for n := range c.Items {
			c.Items[n] = str("spoiled")
		}
		for n := range c.Names {
			c.Names[n] = "spoiled"
		}
	}
	want := numbered(object(1, ref(1), yes), weak(ref(0)))
	given := numbered(object(1, ref(1), yes), weak(ref(0)))
	heaps := []*Heap{with(t, given[0].Cell, given[1].Cell), loaded(t, given, 2)}
	spoil(given[0].Cell)
	spoil(given[1].Cell)
	given[0] = api.Entry{}
	for _, h := range heaps {
		has(t, h, want, 2)
		for id := range 2 {
			c, _ := h.Cell(id)
			spoil(c)
		}
		l := h.Entries()
		spoil(l[0].Cell)
		spoil(l[1].Cell)
		l[1] = api.Entry{}
		has(t, h, want, 2)
	}
	h, c := with(t, want[0].Cell), object(1, ref(1), yes)
	before, _ := h.Cell(0)
	h.Set(ref(0), "a", no)
	h.Set(ref(0), "c", no)
	if !same(before, c) || !same(want[0].Cell, c) {
		t.Errorf("Set changes %s, and %s", brief(before), brief(want[0].Cell))
	}
}

// R3: a name that is added to an object with room behind its names does not get into the argument.
func TestNoRoomIsShared(t *testing.T) {
	names, items := make([]string, 1, 4), make([]api.Value, 1, 4)
	names[0], items[0] = "x", null
	c := api.Cell{Kind: api.Object, Names: names, Items: items}
	for _, h := range []*Heap{with(t, c), loaded(t, numbered(c), 1)} {
		h.Set(ref(0), "y", yes)
		if names[:2][1] != "" || items[:2][1] != unset {
			t.Error("Set writes behind the argument of Alloc or Load")
		}
	}
}
