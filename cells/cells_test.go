package cells

import (
	"math"
	"slices"
	"strconv"
	"strings"
	"testing"

	"facsimile/api"
	"facsimile/heap"
	"facsimile/shape"
	"facsimile/value"
)

// Values of each kind.
var (
	unset = api.Value{}
	null  = api.Value{Kind: api.Nil}
	yes   = api.Value{Kind: api.Bool, N: 1}
)

func integer(n int) api.Value       { return api.Value{Kind: api.Int, N: n} }
func str(s string) api.Value        { return api.Value{Kind: api.Str, S: s} }
func ref(id int) api.Value          { return api.Value{Kind: api.Ref, N: id} }
func function(n int) api.Value      { return api.Value{Kind: api.Fun, N: n} }
func list(l ...int) []int           { return l }
func weak(v api.Value) api.Cell     { return api.Cell{Kind: api.Weak, Items: []api.Value{v}} }
func array(l ...api.Value) api.Cell { return api.Cell{Kind: api.Array, Items: l} }

func closure(fun int, l ...api.Value) api.Cell {
	return api.Cell{Kind: api.Closure, Fun: fun, Items: l}
}

// instance is an object with the names that stand between blanks; items that are not given are 0, 1 and so on.
func instance(class int, names string, l ...api.Value) api.Cell {
	c := api.Cell{Kind: api.Object, Class: class, Names: strings.Fields(names), Items: l}
	for n := len(l); n < len(c.Names); n++ {
		c.Items = append(c.Items, integer(n))
	}
	return c
}

// many returns n names that are different, between blanks.
func many(n int) string {
	var names []string
	for k := range n {
		names = append(names, "f"+strconv.Itoa(k))
	}
	return strings.Join(names, " ")
}

// classes have the fields that stand between blanks.
func classes(fields ...string) []api.Class {
	var c []api.Class
	for n, f := range fields {
		c = append(c, api.Class{Name: "C" + strconv.Itoa(n), Fields: strings.Fields(f)})
	}
	return c
}

// wrongCells are not right.
func wrongCells() []api.Cell {
	return []api.Cell{
		{}, {Kind: -1}, {Kind: 5}, {Kind: math.MaxInt}, {Kind: math.MinInt},
		{Kind: api.Array, Tenant: -1}, {Kind: api.Array, Tenant: 4}, {Kind: api.Object, Tenant: 4},
		{Kind: api.Array, Class: 1}, {Kind: api.Array, Fun: 1}, {Kind: api.Array, Names: []string{"x"}, Items: []api.Value{null}},
		{Kind: api.Closure, Fun: -1}, {Kind: api.Closure, Class: 1}, {Kind: api.Closure, Names: []string{"x"}, Items: []api.Value{null}},
		{Kind: api.Weak}, weak(integer(1)), weak(unset), {Kind: api.Weak, Items: []api.Value{null, null}},
		{Kind: api.Object, Fun: 1}, {Kind: api.Object, Names: []string{"x"}}, {Kind: api.Object, Items: []api.Value{null}},
		instance(0, "x y x"), {Kind: api.Object, Names: []string{""}, Items: []api.Value{null}}, instance(0, many(65)),
		instance(0, "x", unset), instance(0, "x", integer(api.MaxInt+1)), array(str("\n")), array(slices.Repeat([]api.Value{null}, 65)...),
		instance(-1, "x"), instance(math.MinInt, ""),
	}
}

// lost are ids that no cell has, if there are fewer than 100.
func lost() []int {
	return []int{-1, -2, 100, 1000, api.MaxInt, -api.MaxInt, math.MaxInt, math.MinInt}
}

// same tells whether cells are equal; a list that is nil is an empty one.
func same(a, b api.Cell) bool {
	return a.Kind == b.Kind && a.Class == b.Class && a.Fun == b.Fun && a.Tenant == b.Tenant &&
		slices.Equal(a.Names, b.Names) && slices.Equal(a.Items, b.Items)
}

func sameEntries(a, b []api.Entry) bool {
	return slices.EqualFunc(a, b, func(x, y api.Entry) bool { return x.Id == y.Id && same(x.Cell, y.Cell) })
}

// brief is a cell in a message.
func brief(c api.Cell) string {
	if len(c.Items) > 6 || len(c.Names) > 6 {
		return "kind " + strconv.Itoa(c.Kind) + " with " + strconv.Itoa(len(c.Items)) + " items"
	}
	l := []string{"kind " + strconv.Itoa(c.Kind), strconv.Itoa(c.Class), strconv.Itoa(c.Fun), strconv.Itoa(c.Tenant), strings.Join(c.Names, ",")}
	for _, v := range c.Items {
		l = append(l, value.Text(v))
	}
	return strings.Join(l, " ")
}

// numbered gives cells the ids 0, 1 and so on.
func numbered(l ...api.Cell) []api.Entry {
	var entries []api.Entry
	for id, c := range l {
		entries = append(entries, api.Entry{Id: id, Cell: c})
	}
	return entries
}

// allocs makes a cell that gets this id.
func allocs(t *testing.T, s *Store, want int, c api.Cell) {
	t.Helper()
	if id, e := s.Alloc(c); id != want || e != api.OK {
		t.Fatalf("Alloc(%s) = %d, %d, want %d", brief(c), id, e, want)
	}
}

// with returns a store with the class of the fields x, and a class without fields, whose cells have the ids 0, 1 and so on.
func with(t *testing.T, l ...api.Cell) *Store {
	t.Helper()
	s := New(classes("x", ""))
	for id, c := range l {
		allocs(t, s, id, c)
	}
	return s
}

// loaded returns a store with these cells.
func loaded(t *testing.T, c []api.Class, l []api.Entry, next int) *Store {
	t.Helper()
	s, e := Load(c, l, next)
	if s == nil || e != api.OK {
		t.Fatalf("Load of %d cells with %d = %d", len(l), next, e)
	}
	return s
}

// has checks which cells are in a store.
func has(t *testing.T, s *Store, next int, want ...api.Entry) {
	t.Helper()
	if got := s.Entries(); !sameEntries(got, want) {
		t.Errorf("Entries are %d cells, want %d, or they differ", len(got), len(want))
	}
	if got := s.Next(); got != next {
		t.Errorf("Next = %d, want %d", got, next)
	}
	for _, e := range want {
		if c, ok := s.Cell(e.Id); !ok || !same(c, e.Cell) {
			t.Errorf("Cell(%d) = %s, %t, want %s", e.Id, brief(c), ok, brief(e.Cell))
		}
	}
}

// reads checks the Text of the tree.
func reads(t *testing.T, s *Store, lines ...string) {
	t.Helper()
	if want := strings.Join(lines, "\n") + "\n"; s.Tree().Text() != want {
		t.Errorf("the tree is\n%swant\n%s", s.Tree().Text(), want)
	}
}

// shaped checks the shapes of the objects with the ids 0, 1 and so on, which migrate.
func shaped(t *testing.T, s *Store, want ...int) {
	t.Helper()
	for id, w := range want {
		if got, ok := s.Shape(id); got != w || !ok {
			t.Errorf("Shape(%d) = %d, %t, want %d", id, got, ok, w)
		}
	}
}

// waits checks which objects are waiting.
func waits(t *testing.T, s *Store, want ...int) {
	t.Helper()
	if got := s.Waiting(); !slices.Equal(got, want) {
		t.Errorf("Waiting = %v, want %v", got, want)
	}
}

// merges merges shapes for which this is possible.
func merges(t *testing.T, s *Store, a, b int) {
	t.Helper()
	if e := s.Merge(a, b); e != api.OK {
		t.Errorf("Merge(%d, %d) = %d", a, b, e)
	}
}

// splits splits a shape, and checks which one is new.
func splits(t *testing.T, s *Store, a, want int) {
	t.Helper()
	if got, e := s.Split(a); got != want || e != api.OK {
		t.Errorf("Split(%d) = %d, %d, want %d", a, got, e, want)
	}
}

// gets checks an item.
func gets(t *testing.T, s *Store, id int, name string, want api.Value) {
	t.Helper()
	if got, fault := s.Get(ref(id), name); got != want || fault != "" {
		t.Errorf("Get(@%d, %q) = %s, %q, want %s", id, name, value.Text(got), fault, value.Text(want))
	}
}

// sets changes an item, or adds it.
func sets(t *testing.T, s *Store, id int, name string, x api.Value, added bool) {
	t.Helper()
	if got, fault := s.Set(ref(id), name, x); got != added || fault != "" {
		t.Errorf("Set(@%d, %q) = %t, %q, want %t", id, name, got, fault, added)
	}
}

// slots checks an item by its number.
func slots(t *testing.T, s *Store, id, slot int, want api.Value) {
	t.Helper()
	if got, ok := s.Slot(id, slot); got != want || !ok {
		t.Errorf("Slot(%d, %d) = %s, %t, want %s", id, slot, value.Text(got), ok, value.Text(want))
	}
}

// look returns all that a store tells of itself.
func look(s *Store) string {
	l := []string{s.Tree().Text(), strconv.Itoa(s.Next())}
	for _, id := range s.Waiting() {
		l = append(l, "waiting "+strconv.Itoa(id))
	}
	for _, e := range s.Entries() {
		l = append(l, strconv.Itoa(e.Id)+" "+brief(e.Cell))
	}
	return strings.Join(l, "\n")
}

// unchanged returns a function that checks that nothing in a store has changed since.
func unchanged(t *testing.T, s *Store) func() {
	before := look(s)
	return func() {
		t.Helper()
		if after := look(s); after != before {
			t.Errorf("the store became\n%s\nbefore:\n%s", after, before)
		}
	}
}

// fillTree makes shapes of a class until there are 200.
func fillTree(t *testing.T, s *Store, class int) {
	t.Helper()
	for n := s.Tree().Count(); n < 200; n++ {
		if got, e := s.Tree().Make(class, []string{"only" + strconv.Itoa(n)}); got != n || e != api.OK {
			t.Fatalf("Make = %d, %d, want %d", got, e, n)
		}
	}
}

// The examples of the chapter.
func TestExamples(t *testing.T) {
	s := New(classes("x"))
	allocs(t, s, 0, instance(0, "x", null))
	shaped(t, s, 0)
	sets(t, s, 0, "y", integer(5), true)
	shaped(t, s, 1)
	slots(t, s, 0, 1, integer(5))
	splits(t, s, 1, 2)
	merges(t, s, 2, 1)
	waits(t, s, 0)
	gets(t, s, 0, "y", integer(5))
	waits(t, s)
	shaped(t, s, 2)
	if v, fault := s.Get(ref(0), "z"); v != unset || fault != "field" {
		t.Errorf("Get of z = %s, %q", value.Text(v), fault)
	}
	if added, fault := s.Set(ref(7), "x", integer(1)); added || fault != "type" {
		t.Errorf("Set of what is not there = %t, %q", added, fault)
	}
}

// P11.1: a new store has no cells, and the tree that shape.New makes.
func TestNew(t *testing.T) {
	for _, c := range [][]api.Class{
		nil, {}, classes("x"), classes("", "x y", "y x"), classes(slices.Repeat([]string{"x y"}, 12)...),
		classes(slices.Repeat([]string{"x y"}, 13)...), classes(slices.Repeat([]string{""}, 40)...), classes(many(64)), classes(many(65)),
		{{Fields: []string{"", "x", "x"}}}, {{Name: "P", Fields: []string{"x"}, Methods: []api.Method{{Name: "x", Func: "f"}}}},
	} {
		s := New(c)
		if got, want := s.Tree().Text(), shape.New(c).Text(); got != want {
			t.Errorf("the tree is\n%swant\n%s", got, want)
		}
		has(t, s, 0)
		waits(t, s)
	}
}

// P11.1: a loaded store has the cells, and objects get their shapes in order.
func TestLoad(t *testing.T) {
	l := []api.Entry{
		{Id: 2, Cell: instance(1, "y x", ref(7), null)}, {Id: 3, Cell: array(ref(2))}, {Id: 7, Cell: instance(0, "x")}, {Id: 8, Cell: weak(ref(2))},
		{Id: 9, Cell: instance(1, "x y")}, {Id: 10, Cell: instance(1, "y x")}, {Id: 11, Cell: instance(0, "")}, {Id: 20, Cell: closure(3, ref(20))},
		{Id: 21, Cell: instance(1, "y x z")},
	}
	s := loaded(t, classes("x", "x y"), l, 30)
	has(t, s, 30, l...)
	reads(t, s, "roots 0 1", "0 0 x >", "1 1 x y >", "2 1 y x >", "3 0 >", "4 1 y x z >")
	for id, want := range map[int]int{2: 2, 7: 0, 9: 1, 10: 2, 11: 3, 21: 4} {
		if got, ok := s.Shape(id); got != want || !ok {
			t.Errorf("Shape(%d) = %d, %t, want %d", id, got, ok, want)
		}
	}
	allocs(t, s, 30, array())
	for _, next := range []int{0, 1, 7, math.MaxInt} {
		has(t, loaded(t, nil, nil, next), next)
	}
}

// P11.1: Load returns the errors of heap.Load.
func TestLoadRefusesCells(t *testing.T) {
	entry := func(id int, c api.Cell) api.Entry { return api.Entry{Id: id, Cell: c} }
	full := numbered(slices.Repeat([]api.Cell{array()}, 8001)...)
	cases := []struct {
		l    []api.Entry
		next int
		want api.Errno
	}{
		{full, 8001, api.ErrMany}, {full, -1, api.ErrMany}, {numbered(slices.Repeat([]api.Cell{instance(5, "")}, 8001)...), 8001, api.ErrMany},
		{nil, -1, api.ErrArg}, {nil, math.MinInt, api.ErrArg}, {full[:3], 2, api.ErrArg}, {full[:3], 0, api.ErrArg},
		{[]api.Entry{full[0], full[0]}, 5, api.ErrArg}, {[]api.Entry{full[1], full[0]}, 5, api.ErrArg}, {[]api.Entry{entry(-1, array())}, 5, api.ErrArg},
		{numbered(array(ref(1))), 5, api.ErrArg}, {numbered(instance(0, "x", ref(4))), 5, api.ErrArg}, {numbered(weak(ref(3))), 5, api.ErrArg},
		{numbered(closure(0, ref(1000000000))), 5, api.ErrArg},
	}
	for _, c := range wrongCells() {
		cases = append(cases, struct {
			l    []api.Entry
			next int
			want api.Errno
		}{numbered(instance(0, "x"), c, array()), 3, api.ErrArg})
	}
	for n, c := range cases {
		if s, e := Load(classes("x"), c.l, c.next); s != nil || e != c.want {
			t.Errorf("%d: Load = %d, want %d", n, e, c.want)
		}
		if _, e := heap.Load(c.l, c.next); e != c.want {
			t.Errorf("%d: heap.Load = %d, want %d", n, e, c.want)
		}
	}
	s := loaded(t, nil, full[:8000], 8000)
	has(t, s, 8000, full[:8000]...)
}

// P11.1: the class of an object has to be one of the first 12.
func TestLoadRefusesClasses(t *testing.T) {
	for _, count := range []int{0, 1, 2, 11, 12, 13, 40} {
		c := classes(slices.Repeat([]string{"x"}, count)...)
		for _, class := range []int{0, 1, 2, 10, 11, 12, 13, 39, 40, 1000, math.MaxInt} {
			l := numbered(array(), instance(class, "x"), array())
			s, e := Load(c, l, 3)
			if class < count && class < 12 {
				if s == nil || e != api.OK {
					t.Errorf("Load of an object of %d, of %d classes = %d", class, count, e)
					continue
				}
				if got, ok := s.Shape(1); got != class || !ok {
					t.Errorf("Shape = %d, %t, want %d", got, ok, class)
				}
			} else if s != nil || e != api.ErrArg {
				t.Errorf("Load of an object of %d, of %d classes = %d", class, count, e)
			}
		}
	}
	for at := range 3 {
		l := []api.Cell{instance(0, "x"), instance(0, "y"), instance(0, "z")}
		l[at].Class = 1
		if s, e := Load(classes("x"), numbered(l...), 3); s != nil || e != api.ErrArg {
			t.Errorf("Load with a wrong class at %d = %d", at, e)
		}
	}
}

// P11.1: when there are 200 shapes, further objects have none, unless there is one with their names.
func TestLoadOfMoreThanAllShapes(t *testing.T) {
	var l []api.Cell
	for n := range 210 {
		l = append(l, instance(0, "y f"+strconv.Itoa(n)))
	}
	l = append(l, instance(0, "x"), instance(0, "y f3"), instance(0, "y f197"), instance(0, "y f198"), instance(0, "y f199"), instance(1, ""))
	s := loaded(t, classes("x", ""), numbered(l...), len(l))
	has(t, s, len(l), numbered(l...)...)
	for id := range l {
		want := id + 2
		switch {
		case id >= 210:
			want = []int{0, 5, 199, -1, -1, 1}[id-210]
		case id >= 198:
			want = -1
		}
		if got, ok := s.Shape(id); got != want || !ok {
			t.Errorf("Shape(%d) = %d, %t, want %d", id, got, ok, want)
		}
	}
	waits(t, s)
}

// P11.1: calls on the tree that Tree returns act on the store.
func TestTree(t *testing.T) {
	s := with(t, instance(0, "x"), instance(0, "x y"))
	x := s.Tree()
	if x != s.Tree() {
		t.Errorf("Tree returns another tree")
	}
	reads(t, s, "roots 0 1", "0 0 x >", "1 1 >", "2 0 x y >")
	if n, e := x.Add(0, "y"); n != 3 || e != api.OK {
		t.Errorf("Add = %d, %d", n, e)
	}
	sets(t, s, 0, "y", null, true)
	shaped(t, s, 3, 2)
	if n, e := x.Split(3); n != 4 || e != api.OK {
		t.Errorf("Split = %d, %d", n, e)
	}
	waits(t, s)
	allocs(t, s, 2, instance(0, "x"))
	sets(t, s, 2, "y", null, true)
	shaped(t, s, 3, 2, 4)
	if e := x.Merge(2, 3); e != api.OK {
		t.Errorf("Merge = %d", e)
	}
	waits(t, s, 0)
	shaped(t, s, 2, 2, 4)
	if n, e := x.Make(1, []string{"a"}); n != 5 || e != api.OK {
		t.Errorf("Make = %d, %d", n, e)
	}
	allocs(t, s, 3, instance(1, "a"))
	shaped(t, s, 2, 2, 4, 5)
}
