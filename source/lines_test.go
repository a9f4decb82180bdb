package source

import (
	"math/rand/v2"
	"slices"
	"strconv"
	"strings"
	"testing"

	"facsimile/api"
	"facsimile/value"
)

// library has classes and functions that the lines of main use in tests.
func library() string {
	return written(
		"class c x y", "method m f1", "method n f2", "class d",
		"func f0", "s = 'f0'", "print s", "endfunc", // 0
		"func f1 a", "print a", "return a", "endfunc", // 1
		"func f2 a b", "print a", "print b", "return b", "endfunc", // 2
		"func deep n l", "one = 1", "n = n + one", "more = n < l", "if more", "x = call deep n l", "return x", "end", "return n", "endfunc", // 3
		"func empty", "endfunc", // 4
	)
}

// with returns the text of a program with the library, and a function main with these lines.
func with(lines ...string) string { return library() + mainOf(lines...) }

// mainNumber is the number of main in these programs.
const mainNumber = 5

// prints checks what main prints with these lines, and that it ends with its last line.
func prints(t *testing.T, w api.World, lines []string, want ...string) *Machine {
	t.Helper()
	m := begun(t, with(lines...), w)
	m.Run(100000)
	var got []string
	for _, e := range m.Events() {
		switch e.Kind {
		case api.EvPrint:
			got = append(got, e.Text)
		case api.EvFault, api.EvFuel:
			got = append(got, shown(e))
		}
	}
	if !slices.Equal(got, want) {
		t.Errorf("%q: %q, not %q", lines, got, want)
	}
	return m
}

// faults checks that the last one of these lines, and no other one, has a fault, and no effect.
func faults(t *testing.T, w api.World, lines []string, want string) {
	t.Helper()
	m := begun(t, with(lines...), w)
	at := func(m api.Image) bool {
		return m.Now == 0 && m.Threads[0].Frames[len(m.Threads[0].Frames)-1].Line == len(lines)-1 && len(m.Threads[0].Frames) == 1
	}
	before := m.Image()
	for len(before.Threads) > 0 && !at(before) {
		m.Step()
		before = m.Image()
	}
	was := len(m.Events())
	m.Step()
	events := allShown(m.Events())[was:]
	if fault := "fault 0/0 " + strconv.Itoa(mainNumber) + "." + strconv.Itoa(len(lines)-1) + " " + want; !slices.Equal(events, []string{fault}) {
		t.Errorf("%q: %q, not %q", lines, events, fault)
		return
	}
	// The thread is gone, and its cells are not visible any more.
	after := m.Image()
	before.Threads, before.Cells = slices.Delete(before.Threads, 0, 1), after.Cells
	before.Fuel[0]--
	before.Steps++
	before.Now, before.Choice = after.Now, after.Choice
	isImage(t, "after "+lines[len(lines)-1], after, before)
}

// P7.4: const and move.
func TestConstAndMove(t *testing.T) {
	for _, literal := range []string{"nil", "true", "false", "0", "-7", "1000000000000000", "-1000000000000000"} {
		prints(t, rich(1), []string{"a = " + literal, "print a", "b = a", "print b", "print a"}, literal, literal, literal)
	}
	prints(t, rich(1), []string{"a = 'it''s'", "b = ''", "c = a", "a = b", "print c", "print a"}, "it's", "")
}

// someValues returns right values of all kinds that a variable can have; the refs denote an object, an array, a closure and a weak cell.
func someValues() ([]api.Value, []api.Entry) {
	values := []api.Value{null, yes, no, integer(0), integer(1), integer(-7), integer(api.MaxInt), integer(-api.MaxInt), integer(100000000), str(""), str("ab"), str(strings.Repeat("x", api.MaxString)), ref(0), ref(1), ref(2), ref(3)}
	cells := []api.Entry{
		{Id: 0, Cell: api.Cell{Kind: api.Object, Names: []string{"x"}, Items: []api.Value{null}}},
		{Id: 1, Cell: api.Cell{Kind: api.Array, Items: []api.Value{null, ref(0), integer(4)}}},
		{Id: 2, Cell: api.Cell{Kind: api.Closure, Fun: 1}},
		{Id: 3, Cell: api.Cell{Kind: api.Weak, Items: []api.Value{ref(0)}}},
	}
	return values, cells
}

// computed executes one line `a = ..` with values for b and c, and returns the value of a, or the fault.
func computed(t *testing.T, line string, b, c api.Value, cells []api.Entry) (api.Value, string) {
	t.Helper()
	text := with(line, "print a", "print all")
	slots := info(t, parsed(t, text)).Slots[mainNumber]
	vars := make([]api.Value, len(slots))
	for name, v := range map[string]api.Value{"b": b, "c": c, "all": ref(4)} {
		if n := slices.Index(slots, name); n >= 0 {
			vars[n] = v
		}
	}
	all := api.Entry{Id: 4, Cell: api.Cell{Kind: api.Array}}
	for _, e := range cells {
		all.Cell.Items = append(all.Cell.Items, ref(e.Id))
	}
	m := loaded(t, text, rich(1), api.Image{
		Threads: []api.Thread{{Frames: []api.Frame{{Fun: mainNumber, Vars: vars}}}},
		Cells:   append(slices.Clone(cells), all), Next: 5, Born: 1, Fuel: []int{10}, Used: []int{1000},
	})
	m.Step()
	if events := m.Events(); len(events) > 0 {
		return unset, events[0].Text
	}
	return m.Image().Threads[0].Frames[0].Vars[slices.Index(slots, "a")], ""
}

// P7.4: not, neg, and the operators with two operands are those of value.
func TestOperators(t *testing.T) {
	values, cells := someValues()
	r := rand.New(rand.NewPCG(7, 4))
	for op, form := range map[int]string{
		api.OpAdd: "a = b + c", api.OpSub: "a = b - c", api.OpMul: "a = b * c", api.OpDiv: "a = b / c", api.OpMod: "a = b % c", api.OpLess: "a = b < c",
		api.OpEqual: "a = b == c", api.OpAnd: "a = b and c", api.OpOr: "a = b or c", api.OpCat: "a = b . c",
	} {
		for _, b := range values {
			for _, c := range values {
				if b.Kind != c.Kind && r.IntN(4) > 0 {
					continue
				}
				want, fault := value.Binary(op, b, c)
				if got, found := computed(t, form, b, c, cells); got != want || found != fault {
					t.Errorf("%s with %v and %v: %v and %q, not %v and %q", form, b, c, got, found, want, fault)
				}
			}
		}
	}
	for op, form := range map[int]string{api.OpNot: "a = not b", api.OpNeg: "a = neg b"} {
		for _, b := range values {
			want, fault := value.Unary(op, b)
			if got, found := computed(t, form, b, unset, cells); got != want || found != fault {
				t.Errorf("%s with %v: %v and %q, not %v and %q", form, b, got, found, want, fault)
			}
		}
	}
}

// P7.4: reading an unset variable is the first fault of all lines; what a line only writes may be unset.
func TestUnset(t *testing.T) {
	for _, c := range []struct{ line, reads string }{
		{"a = 1", ""}, {"a = b", "b"}, {"a = not b", "b"}, {"a = neg b", "b"}, {"a = b + c", "bc"}, {"a = b - c", "bc"}, {"a = b * c", "bc"}, {"a = b / c", "bc"},
		{"a = b % c", "bc"}, {"a = b < c", "bc"}, {"a = b == c", "bc"}, {"a = b and c", "bc"}, {"a = b or c", "bc"}, {"a = b . c", "bc"},
		{"a = new c", ""}, {"a = b.x", "b"}, {"a.x = b", "ab"}, {"a = array b", "b"}, {"a = b[c]", "bc"}, {"a[b] = c", "abc"}, {"a = len b", "b"},
		{"a = call f2 b c", "bc"}, {"a = bind f2 b c", "bc"}, {"a = apply b c d", "bcd"}, {"a = send b m c d", "bcd"}, {"a = send b none c d", "bcd"}, {"a = weak b", "b"}, {"a = deref b", "b"},
		{"final a f0", "a"}, {"print a", "a"}, {"a = input", ""}, {"a = clock", ""}, {"spawn 0 f2 b c", "bc"}, {"spawn 9 f2 b c", "bc"}, {"yield", ""}, {"throw a", "a"}, {"return a", "a"},
		{"if a\nend", "a"}, {"while a\nend", "a"}, {"try\nfinally\nend", ""},
	} {
		for without := range len(c.reads) + 1 {
			var lines []string
			for n, name := range c.reads {
				if n != without {
					lines = append(lines, string(name)+" = 'x'")
				}
			}
			at := len(lines)
			lines = append(lines, strings.Split(c.line, "\n")...)
			m := begun(t, with(lines...), rich(1))
			m.Run(at + 1)
			fault := "fault 0/0 5." + strconv.Itoa(at) + " unset"
			if got := slices.Contains(allShown(m.Events()), fault); got != (without < len(c.reads)) {
				t.Errorf("%q: events %q", lines, allShown(m.Events()))
			}
		}
	}
}

// faulty are lines of which the last one has a fault.
type faulty struct {
	fault string
	lines []string
}

// P7.4: the faults of lines that compute values, and read and write cells, with one thing wrong each, and with two of them at once.
func TestFaultsOfValues(t *testing.T) {
	for _, c := range []faulty{
		{"type", []string{"a = 1", "b = not a"}},
		{"type", []string{"a = 'x'", "b = neg a"}},
		{"zero", []string{"a = 1", "b = 0", "c = a % b"}},
		{"range", []string{"a = 1000000000000000", "b = 1", "c = a + b"}},
		{"range", []string{"a = -1000000000000000", "b = 1", "c = a - b"}},
		{"range", []string{"a = 100000000", "c = a * a"}},
		{"type", []string{"a = nil", "b = 0", "c = a / b"}},
		{"type", []string{"a = 7", "b = a.x"}},
		{"type", []string{"a = 'x'", "b = a.x"}},
		{"type", []string{"n = 2", "a = array n", "b = a.x"}},
		{"field", []string{"a = new c", "b = a.z"}},
		{"field", []string{"a = new d", "b = a.x"}},
		{"type", []string{"a = 7", "a.x = a"}},
		{"type", []string{"n = 2", "a = array n", "a.x = n"}},
		{"type", []string{"a = bind f0", "a.x = a"}},
		{"type", []string{"a = nil", "b = array a"}},
		{"type", []string{"a = true", "b = array a"}},
		{"range", []string{"a = -1", "b = array a"}},
		{"range", []string{"a = 65", "b = array a"}},
		{"range", []string{"a = 1000000000000000", "b = array a"}},
		{"type", []string{"a = 7", "b = 0", "c = a[b]"}},
		{"type", []string{"b = 0", "a = new c", "c = a[b]"}},
		{"type", []string{"b = 2", "a = array b", "b = nil", "c = a[b]"}},
		{"type", []string{"a = 'abc'", "b = 9", "c = a[b]"}},
		{"bounds", []string{"b = 2", "a = array b", "c = a[b]"}},
		{"bounds", []string{"b = 2", "a = array b", "b = -1", "c = a[b]"}},
		{"bounds", []string{"b = 0", "a = array b", "c = a[b]"}},
		{"type", []string{"a = 7", "b = 0", "a[b] = a"}},
		{"type", []string{"b = 2", "a = array b", "b = 'x'", "a[b] = a"}},
		{"bounds", []string{"b = 2", "a = array b", "a[b] = a"}},
		{"bounds", []string{"b = 2", "a = array b", "b = -1", "a[b] = a"}},
		{"type", []string{"a = 7", "b = len a"}},
		{"type", []string{"a = new c", "b = len a"}},
		{"type", []string{"a = nil", "b = len a"}},
		{"type", []string{"a = nil", "b = deref a"}},
		{"type", []string{"a = new c", "b = deref a"}},
	} {
		faults(t, rich(1), c.lines, c.fault)
	}
}

// P7.4: the faults of lines that call functions, or concern cells and threads as a whole, and of conditions.
func TestFaultsOfCalls(t *testing.T) {
	for _, c := range []faulty{
		{"type", []string{"a = nil", "b = apply a"}},
		{"type", []string{"a = new c", "b = apply a"}},
		{"arity", []string{"a = bind f1", "b = apply a"}},
		{"arity", []string{"a = bind f1", "b = apply a a a"}},
		{"arity", []string{"n = 1", "a = bind f1 n", "b = apply a n"}},
		{"arity", []string{"a = bind f0", "b = apply a a"}},
		{"type", []string{"a = nil", "b = send a m"}},
		{"type", []string{"a = bind f1", "b = send a m"}},
		{"type", []string{"a = 'x'", "b = send a none a"}},
		{"method", []string{"a = new c", "b = send a none"}},
		{"method", []string{"a = new d", "b = send a m"}},
		{"method", []string{"a = new c", "b = send a f1"}},
		{"method", []string{"a = new c", "b = send a x a a a"}},
		{"arity", []string{"a = new c", "b = send a m a"}},
		{"arity", []string{"a = new c", "b = send a n"}},
		{"arity", []string{"a = new c", "b = send a n a a"}},
		{"type", []string{"a = nil", "b = weak a"}},
		{"type", []string{"a = 0", "b = weak a"}},
		{"type", []string{"a = nil", "final a f0"}},
		{"type", []string{"a = 'x'", "final a empty"}},
		{"tenant", []string{"spawn 1 f0"}},
		{"tenant", []string{"spawn -1 f0"}},
		{"tenant", []string{"spawn 1000000000000000 empty"}},
		{"fault", []string{"a = 'fault'", "throw a"}},
	} {
		faults(t, rich(1), c.lines, c.fault)
	}
}

// P7.4: other faults come before bytes, without an epoch at once.
func TestFaultsBeforeBytes(t *testing.T) {
	for _, c := range []faulty{
		{"type", []string{"a = nil", "b = array a"}},
		{"range", []string{"a = 65", "b = array a"}},
		{"type", []string{"a = nil", "b = weak a"}},
		{"type", []string{"a = nil", "a.x = a"}},
		{"unset", []string{"a = nil", "b = bind f2 a c"}},
		{"unset", []string{"a = nil", "a.x = b"}},
		{"unset", []string{"b = array a"}},
		{"unset", []string{"b = weak a"}},
	} {
		faults(t, limited(0), c.lines, c.fault)
	}
}

// P7.4: conditions of all kinds.
func TestConditions(t *testing.T) {
	for literal, want := range map[string][]string{
		"true": {"in", "out"}, "false": {"out"}, "nil": {"fault 0/0 5.2 type"}, "0": {"fault 0/0 5.2 type"}, "1": {"fault 0/0 5.2 type"}, "''": {"fault 0/0 5.2 type"}, "'true'": {"fault 0/0 5.2 type"},
	} {
		prints(t, rich(1), []string{"i = 'in'", "a = " + literal, "if a", "print i", "end", "i = 'out'", "print i"}, want...)
		prints(t, rich(1), []string{"i = 'in'", "a = " + literal, "while a", "print i", "a = false", "end", "i = 'out'", "print i"}, want...)
	}
}

// P7.4: new objects have the fields of their class, all nil; cells get ids one after the other, and belong to the tenant of the thread.
func TestNewCells(t *testing.T) {
	text := written("class e", "class c x y", "func main", "spawn 2 f", "yield", "a = 1", "endfunc", "func f", "a = new c", "b = new e", "n = 3", "d = array n", "g = bind h b n", "i = weak d", "b = 0", "j = array b", "k = 64", "k = array k",
		"print a", "print d", "print g", "print i", "print j", "print k", "endfunc", "func h a b d", "endfunc")
	w := rich(3)
	w.Choices = []int{1}
	m := begun(t, text, w)
	m.Run(12)
	got := m.Image()
	want := []api.Entry{
		{Id: 0, Cell: api.Cell{Kind: api.Object, Class: 1, Tenant: 2, Names: []string{"x", "y"}, Items: []api.Value{null, null}}},
		{Id: 1, Cell: api.Cell{Kind: api.Object, Class: 0, Tenant: 2}},
		{Id: 2, Cell: api.Cell{Kind: api.Array, Tenant: 2, Items: []api.Value{null, null, null}}},
		{Id: 3, Cell: api.Cell{Kind: api.Closure, Fun: 2, Tenant: 2, Items: []api.Value{ref(1), integer(3)}}},
		{Id: 4, Cell: api.Cell{Kind: api.Weak, Tenant: 2, Items: []api.Value{ref(2)}}},
		{Id: 5, Cell: api.Cell{Kind: api.Array, Tenant: 2}},
		{Id: 6, Cell: api.Cell{Kind: api.Array, Tenant: 2, Items: slices.Repeat([]api.Value{null}, 64)}},
	}
	if !slices.EqualFunc(got.Cells, want, sameEntry) {
		t.Errorf("cells %+v, not %+v", got.Cells, want)
	}
	if got.Next != 7 || !slices.Equal(got.Used, []int{0, 0, 32 + 16 + 40 + 32 + 24 + 16 + 528}) {
		t.Errorf("Next is %d, Used %v", got.Next, got.Used)
	}
}

// P7.4: get, set, at, put, len and deref.
func TestCellLines(t *testing.T) {
	w := rich(1)
	prints(t, w, []string{"a = new c", "b = a.y", "print b", "c = 5", "a.y = c", "a.z = a", "b = a.y", "print b", "b = a.z", "print b", "b = a.x", "print b"}, "nil", "5", "<c>", "nil")
	prints(t, w, []string{"a = new c", "b = a", "c = 5", "b.x = c", "c = a.x", "print c"}, "5")
	prints(t, w, []string{"n = 3", "a = array n", "i = 2", "b = a[i]", "print b", "a[i] = n", "b = a[i]", "print b", "i = 0", "a[i] = a", "b = a[i]", "print b", "i = 1", "b = a[i]", "print b"}, "nil", "3", "<array 3>", "nil")
	prints(t, w, []string{"n = 64", "a = array n", "b = len a", "print b", "n = 0", "a = array n", "b = len a", "print b", "a = 'it''s'", "b = len a", "print b", "a = ''", "b = len a", "print b"}, "64", "0", "4", "0")
	prints(t, w, []string{"a = new c", "b = weak a", "d = deref b", "print d", "d = weak b", "d = deref d", "print d", "print a", "print b"}, "<c>", "<weak>", "<c>", "<weak>")
	prints(t, w, []string{"a = new c", "print a", "b = bind f1", "print b", "b = weak a", "print b", "a = bind deep", "print a"}, "<c>", "<closure f1>", "<weak>", "<closure deep>")
}

// P7.4: set of a new field takes room from the tenant of the cell; set of one that there is takes none.
func TestSetCharges(t *testing.T) {
	text := written("class c x", "func main", "o = new c", "spawn 1 f o", "yield", "a = o.x", "print a", "endfunc", "func f o", "v = 7", "o.y = v", "o.x = v", "o.y = v", "o.z = v", "endfunc")
	w := rich(2)
	w.Choices = []int{1}
	m := begun(t, text, w)
	for n, used := range []int{0, 24, 24, 24, 24, 32, 32, 32, 40} {
		if got := m.Image().Used; !slices.Equal(got, []int{used, 0}) {
			t.Errorf("after %d steps: used %v, not %d", n, got, used)
		}
		m.Step()
	}
	// The same with no room of the tenant of the cell, and with none of the tenant of the thread.
	for _, c := range []struct {
		limit []int
		last  string
	}{
		{[]int{31, 1000}, "fault 1/1 1.1 bytes"}, {[]int{32, 0}, "fault 1/1 1.4 bytes"}, {[]int{39, 0}, "fault 1/1 1.4 bytes"}, {[]int{40, 0}, "end 1/1 1.5 nil"},
	} {
		w.Limit = c.limit
		m := begun(t, text, w)
		m.Run(100)
		if got := allShown(m.Events()); !slices.Contains(got, c.last) {
			t.Errorf("limits %v: events %q", c.limit, got)
		}
	}
}

// manyFields returns an image in which main is before `a.NAME = b`, where a is an object with so many fields, f0 to ..
func manyFields(fields, used int) api.Image {
	c := api.Cell{Kind: api.Object}
	for n := range fields {
		c.Names, c.Items = append(c.Names, "f"+strconv.Itoa(n)), append(c.Items, null)
	}
	return api.Image{
		Threads: []api.Thread{{Frames: []api.Frame{{Fun: mainNumber, Vars: []api.Value{ref(0), yes}}}}},
		Cells:   []api.Entry{{Cell: c}}, Next: 1, Born: 1, Fuel: []int{5}, Used: []int{used},
	}
}

// P7.4: objects with 63 and 64 fields get no more than 64; the fault range comes before bytes, and fields that there are can be set.
func TestManyFields(t *testing.T) {
	for _, c := range []struct {
		fields int
		name   string
		limit  int
		want   []string
	}{
		{62, "g", 1000, nil}, {63, "g", 1000, nil}, {64, "g", 1000, []string{"fault 0/0 5.0 range"}},
		{63, "g", 528, nil}, {63, "g", 527, []string{"epoch -1/0 0.0 520", "fault 0/0 5.0 bytes"}}, {64, "g", 0, []string{"fault 0/0 5.0 range"}},
		{64, "f0", 0, nil}, {64, "f63", 0, nil}, {63, "f63", 0, []string{"epoch -1/0 0.0 520", "fault 0/0 5.0 bytes"}}, {63, "f62", 0, nil},
	} {
		w := rich(1)
		w.Limit = []int{c.limit}
		m := loaded(t, with("a."+c.name+" = b", "print a"), w, manyFields(c.fields, 16+8*c.fields))
		m.Step()
		sameEvents(t, c.name, m, c.want...)
		if c.want != nil {
			continue
		}
		cell := m.Image().Cells[0].Cell
		if n := slices.Index(cell.Names, c.name); n < 0 || cell.Items[n] != yes || len(cell.Items) != max(c.fields, n+1) {
			t.Errorf("%d fields: %+v", c.fields, cell)
		}
	}
}

// P7.4: call, bind, apply and send pass arguments, and get what is returned.
func TestCalls(t *testing.T) {
	w := rich(1)
	prints(t, w, []string{"a = 1", "b = 2", "c = call f2 a b", "print c", "c = call f2 b a", "print c", "c = call f2 b b", "c = call f0", "print c"}, "1", "2", "2", "2", "1", "1", "2", "2", "f0", "nil")
	prints(t, w, []string{"a = 1", "b = 2", "k = bind f2", "c = apply k a b", "k = bind f2 a", "c = apply k b", "c = apply k c", "k = bind f2 b a", "c = apply k", "print c"}, "1", "2", "1", "2", "1", "2", "2", "1", "1")
	prints(t, w, []string{"a = new c", "b = send a m", "print b", "c = 7", "b = send a n c", "print b", "b = send a n a"}, "<c>", "<c>", "<c>", "7", "7", "<c>", "<c>")
	// What a closure keeps is what the variables had.
	prints(t, w, []string{"a = 1", "k = bind f1 a", "a = 2", "b = apply k", "b = apply k", "print a"}, "1", "1", "2")
}

// P7.4: 40 frames, and one more, by call, apply and send; other faults come before.
func TestStack(t *testing.T) {
	for depth, want := range map[int]string{1: "1", 38: "38", 39: "39", 40: "fault 0/0 3.4 stack", 60: "fault 0/0 3.4 stack"} {
		prints(t, rich(1), []string{"n = 0", "l = " + strconv.Itoa(depth), "x = call deep n l", "print x"}, want)
	}
	// The frames at a call of deep wait for frames of main.
	for _, c := range []struct{ line, full, free string }{
		{"x = call f1 a", "stack", ""}, {"x = call empty", "stack", ""}, {"x = apply k a", "stack", ""}, {"x = apply k", "arity", "arity"}, {"x = apply a", "type", "type"}, {"x = apply z", "unset", "unset"},
		{"x = send a m", "stack", ""}, {"x = send a m a", "arity", "arity"}, {"x = send a none", "method", "method"}, {"x = send k m", "type", "type"}, {"x = send a m z", "unset", "unset"},
	} {
		text := with(c.line, "print a", "print k")
		slots := info(t, parsed(t, text)).Slots[mainNumber]
		for frames, want := range map[int]string{39: c.free, 40: c.full} {
			vars := make([]api.Value, len(slots))
			vars[slices.Index(slots, "a")], vars[slices.Index(slots, "k")] = ref(0), ref(1)
			image := api.Image{Cells: []api.Entry{{Cell: api.Cell{Kind: api.Object}}, {Id: 1, Cell: api.Cell{Kind: api.Closure, Fun: 1}}}, Next: 2, Born: 1, Fuel: []int{9}, Used: []int{32}}
			below := api.Frame{Fun: 3, Line: 4, Vars: make([]api.Value, 5)}
			image.Threads = []api.Thread{{Frames: append(slices.Repeat([]api.Frame{below}, frames-1), api.Frame{Fun: mainNumber, Vars: vars})}}
			m := loaded(t, text, rich(1), image)
			m.Step()
			if want != "" {
				sameEvents(t, c.line, m, "fault 0/0 5.0 "+want)
				continue
			}
			top := frames
			if c.line != "x = call empty" {
				top++
			}
			if image := m.Image(); len(m.Events()) > 0 || len(image.Threads[0].Frames) != top {
				t.Errorf("%s on %d frames: %+v", c.line, frames, image)
			}
		}
	}
}

// P7.4: inputs and readings of the clock, one after the other, and nil when there are no more.
func TestInputAndClock(t *testing.T) {
	w := rich(1)
	w.Inputs, w.Clocks = []api.Value{str("in"), null, integer(3), yes}, []int{9, -4}
	lines := []string{"a = input", "print a", "b = clock", "print b", "a = input", "print a", "a = input", "print a", "b = clock", "print b", "b = clock", "print b", "a = input", "print a", "a = input", "print a", "b = clock", "print b"}
	m := prints(t, w, lines, "in", "9", "nil", "3", "-4", "nil", "true", "nil", "nil")
	if image := m.Image(); image.In != 4 || image.Clock != 2 || image.Choice != 0 {
		t.Errorf("at the end: %+v", image)
	}
	m = prints(t, rich(1), []string{"a = input", "b = clock", "print a", "print b"}, "nil", "nil")
	if image := m.Image(); image.In != 0 || image.Clock != 0 {
		t.Errorf("without inputs: %+v", image)
	}
}

// P7.4: final registers one finaliser after the other, also several for a cell.
func TestFinal(t *testing.T) {
	text := written("class c", "func main", "spawn 1 f", "yield", "x = 1", "endfunc", "func f", "a = new c", "b = weak a", "final a g", "final b h", "final a g", "final a h", "print b", "endfunc", "func g", "endfunc", "func h", "endfunc")
	w := rich(2)
	w.Choices = []int{1}
	m := begun(t, text, w)
	m.Run(8)
	if got, want := m.Image().Finals, []api.Final{{Cell: 0, Fun: 2, Tenant: 1}, {Cell: 1, Fun: 3, Tenant: 1}, {Cell: 0, Fun: 2, Tenant: 1}, {Cell: 0, Fun: 3, Tenant: 1}}; !slices.Equal(got, want) {
		t.Errorf("Finals %v, not %v", got, want)
	}
}

// P7.4: spawned threads have the next ids, their tenants, and the arguments that are live.
func TestSpawn(t *testing.T) {
	text := written("func main", "a = 1", "b = 'x'", "spawn 1 f a b", "spawn 0 f b a", "spawn 2 g", "endfunc", "func f a b", "print b", "endfunc", "func g", "x = 1", "print x", "endfunc")
	m := begun(t, text, rich(3))
	m.Run(4)
	want := []api.Thread{
		{Id: 0, Frames: []api.Frame{{Fun: 0, Line: 4, Vars: []api.Value{unset, unset}}}},
		{Id: 1, Tenant: 1, Frames: []api.Frame{{Fun: 1, Vars: []api.Value{unset, str("x")}}}},
		{Id: 2, Tenant: 0, Frames: []api.Frame{{Fun: 1, Vars: []api.Value{unset, integer(1)}}}},
	}
	isImage(t, "spawned", m.Image(), api.Image{Threads: want, Born: 3, Steps: 4, Fuel: []int{996, 1000, 1000}, Used: []int{0, 0, 0}})
	m.Run(100)
	sameEvents(t, "spawned", m, "end 0/0 0.5 nil", "print 1/1 1.0 x", "end 1/1 1.1 nil", "print 2/0 1.0 1", "end 2/0 1.1 nil", "print 3/2 2.1 1", "end 3/2 2.2 nil")
}

// P7.4: a spawned function without lines ends at once; its id is taken.
func TestSpawnWithoutLines(t *testing.T) {
	text := written("func main", "spawn 1 f", "spawn 1 g", "spawn 0 f", "endfunc", "func f", "endfunc", "func g", "yield", "endfunc")
	m := happens(t, "without lines", text, rich(2), "end 1/1 1.0 nil", "end 3/0 1.0 nil", "end 0/0 0.3 nil", "end 2/1 2.1 nil")
	if born := m.Image().Born; born != 4 {
		t.Errorf("Born is %d", born)
	}
}

// P7.4: 16 threads, and one more; a tenant that there is not comes first, and a function without lines is like others.
func TestSpawnOfManyThreads(t *testing.T) {
	for _, c := range []struct {
		line    string
		threads int
		want    []string
	}{
		{"spawn 1 f0", 15, nil}, {"spawn 1 f0", 16, []string{"fault 0/0 5.0 threads"}}, {"spawn 2 f0", 16, []string{"fault 0/0 5.0 tenant"}}, {"spawn 2 f0", 15, []string{"fault 0/0 5.0 tenant"}},
		{"spawn 0 empty", 15, []string{"end 50/0 4.0 nil"}}, {"spawn 0 empty", 16, []string{"fault 0/0 5.0 threads"}}, {"spawn 1 f1 a", 16, []string{"fault 0/0 5.0 unset"}},
		{"spawn 7 f1 a", 16, []string{"fault 0/0 5.0 unset"}}, {"spawn 3 f0", 16, []string{"fault 0/0 5.0 tenant"}}, {"spawn 0 f0", 1, nil},
	} {
		text := with(c.line, "yield")
		image := api.Image{Born: 50, Fuel: []int{9, 9}, Used: []int{0, 0}}
		for id := range c.threads {
			image.Threads = append(image.Threads, api.Thread{Id: 2 * id, Frames: []api.Frame{{Fun: mainNumber, Vars: make([]api.Value, len(info(t, parsed(t, text)).Slots[mainNumber]))}}})
		}
		m := loaded(t, text, rich(2), image)
		m.Step()
		sameEvents(t, c.line, m, c.want...)
		got := m.Image()
		if c.want == nil && (len(got.Threads) != c.threads+1 || got.Born != 51 || got.Threads[c.threads].Id != 50) {
			t.Errorf("%s: %+v", c.line, got)
		}
	}
}

// P7.4: print shows values of all kinds, at its place.
func TestPrint(t *testing.T) {
	prints(t, rich(1), []string{"a = nil", "print a", "a = false", "print a", "a = -12", "print a", "a = 'it''s'", "print a", "n = 2", "a = array n", "print a", "a = bind f2 n", "print a"}, "nil", "false", "-12", "it's", "<array 2>", "<closure f2>")
	text := written("func main", "spawn 1 f", "yield", "x = 1", "print x", "endfunc", "func f", "y = 2", "x = call g y", "endfunc", "func g a", "print a", "endfunc")
	w := rich(2)
	w.Choices = []int{1}
	happens(t, "places", text, w, "print 1/1 2.0 2", "end 1/1 1.2 nil", "print 0/0 0.3 1", "end 0/0 0.4 nil")
}
