package source

import (
	"math"
	"slices"
	"strings"
	"testing"

	"facsimile/api"
	"facsimile/check"
)

// standing is a program whose images have all parts.
func standing() string {
	return written(
		"class c x y", "method m g",
		"class d",
		"func main", // 0, slots x, y
		"x = new c", "try", "y = call f x", "finally", "try", "print x", "finally", "print x", "end", "print x", "end", "print y", "endfunc",
		"func f a", // 1, slots a, b, k, c
		"b = send a m", "k = bind h", "c = apply k", "return a", "endfunc",
		"func g o", // 2, slot o
		"print o", "return o", "endfunc",
		"func h", "yield", "endfunc", // 3
		"func e", "endfunc", // 4
		"func l b", // 5, slots b, i, e
		"while b", "try", "i = b", "catch e", "if b", "yield", "end", "finally", "if b", "print e", "end", "end", "end", "endfunc",
	)
}

func standingWorld() api.World {
	return api.World{Inputs: []api.Value{null, yes}, Clocks: []int{7}, Choices: []int{1, 2, 3}, Fuel: []int{10, 10}, Limit: []int{100, api.MaxLimit}}
}

// standingImage is right: thread 1 is in g, called by f, called by main; thread 4 is in main, in its inner finally part. The closure 8 is visible only over the weak cell 6.
func standingImage() api.Image {
	return api.Image{
		Threads: []api.Thread{
			{Id: 1, Tenant: 0, Frames: []api.Frame{
				{Fun: 0, Line: 2, Vars: []api.Value{ref(3), unset}},
				{Fun: 1, Line: 0, Vars: []api.Value{ref(3), unset, unset, unset}},
				{Fun: 2, Line: 0, Vars: []api.Value{ref(3)}},
			}},
			{Id: 4, Tenant: 1, Frames: []api.Frame{
				{Fun: 0, Line: 7, Vars: []api.Value{ref(5), integer(7)}, Pend: []api.Pending{
					{Kind: api.PendThrow, Value: str("z"), Place: place(1, 2)},
					{Kind: api.PendReturn, Value: ref(9)},
				}},
			}},
		},
		Cells: []api.Entry{
			{Id: 3, Cell: api.Cell{Kind: api.Object, Class: 0, Tenant: 0, Names: []string{"x", "y"}, Items: []api.Value{null, ref(3)}}},
			{Id: 5, Cell: api.Cell{Kind: api.Array, Tenant: 1, Items: []api.Value{ref(6), integer(2), null}}},
			{Id: 6, Cell: api.Cell{Kind: api.Weak, Tenant: 1, Items: []api.Value{ref(8)}}},
			{Id: 8, Cell: api.Cell{Kind: api.Closure, Fun: 3, Tenant: 0}},
			{Id: 9, Cell: api.Cell{Kind: api.Weak, Tenant: 1, Items: []api.Value{null}}},
		},
		Finals: []api.Final{{Cell: 2, Fun: 3, Tenant: 1}, {Cell: 3, Fun: 4, Tenant: 0}},
		Next:   10, Born: 5, Now: 4, Steps: 100, Fuel: []int{10, 0}, Used: []int{48, 88}, In: 2, Clock: 1, Choice: 3,
	}
}

// verdict checks what Right and Load say of an image.
func verdict(t *testing.T, what string, text string, w api.World, m api.Image, want bool) {
	t.Helper()
	p := parsed(t, text)
	if got := Right(p, info(t, p), w, m); got != want {
		t.Errorf("%s: Right is %t for %+v", what, got, m)
	}
	l, e := Load(p, w, m)
	if !want {
		isNothing(t, what, l, e, api.ErrArg)
		return
	}
	if e != api.OK {
		t.Errorf("%s: Load returns error %d", what, e)
		return
	}
	isImage(t, what, l.Image(), m)
}

type changed struct {
	what   string
	want   bool
	change func(m *api.Image)
}

func verdicts(t *testing.T, table []changed) {
	t.Helper()
	verdict(t, "the image as it is", standing(), standingWorld(), standingImage(), true)
	for _, c := range table {
		m := standingImage()
		c.change(&m)
		verdict(t, c.what, standing(), standingWorld(), m, c.want)
	}
}

// P7.2: threads and Now.
func TestRightThreads(t *testing.T) {
	verdicts(t, []changed{
		{"the least id", true, func(m *api.Image) { m.Threads[0].Id = 0 }},
		{"a negative id", false, func(m *api.Image) { m.Threads[0].Id = -1 }},
		{"an id less than the next", true, func(m *api.Image) { m.Threads[0].Id = 3 }},
		{"an id like the next", false, func(m *api.Image) { m.Threads[0].Id = 4 }},
		{"ids that do not increase", false, func(m *api.Image) { m.Threads[1].Id, m.Now = 0, 0 }},
		{"a great Born", true, func(m *api.Image) { m.Born = math.MaxInt }},
		{"an id not less than Born", false, func(m *api.Image) { m.Born = 4 }},
		{"Born is 0", false, func(m *api.Image) { m.Born = 0 }},
		{"the greatest id", true, func(m *api.Image) { m.Threads[1].Id, m.Born, m.Now = math.MaxInt-1, math.MaxInt, 1 }},
		{"an id beyond", false, func(m *api.Image) { m.Threads[1].Id, m.Born, m.Now = math.MaxInt, math.MaxInt, 1 }},
		{"the other tenant", true, func(m *api.Image) { m.Threads[0].Tenant = 1 }},
		{"a tenant that there is not", false, func(m *api.Image) { m.Threads[0].Tenant = 2 }},
		{"a tenant that there is not, of the last thread", false, func(m *api.Image) { m.Threads[1].Tenant = 2 }},
		{"a negative tenant", false, func(m *api.Image) { m.Threads[0].Tenant = -1 }},
		{"a thread more", true, func(m *api.Image) {
			m.Threads = slices.Insert(m.Threads, 1, api.Thread{Id: 2, Frames: []api.Frame{{Fun: 3}}})
		}},
		{"a thread more, without frames", false, func(m *api.Image) { m.Threads = slices.Insert(m.Threads, 1, api.Thread{Id: 2}) }},
		{"the other thread runs", true, func(m *api.Image) { m.Now = 1 }},
		{"Now is none of the ids", false, func(m *api.Image) { m.Now = 2 }},
		{"Now is -1 with threads", false, func(m *api.Image) { m.Now = -1 }},
		{"Now is -2 with threads", false, func(m *api.Image) { m.Now = -2 }},
	})
	// Without threads nothing is visible.
	empty := func(m *api.Image) { m.Threads, m.Cells = nil, nil }
	verdicts(t, []changed{
		{"no threads", true, func(m *api.Image) { empty(m); m.Now = -1 }},
		{"no threads, but Now", false, func(m *api.Image) { empty(m); m.Now = 4 }},
		{"no threads, but Now 0", false, func(m *api.Image) { empty(m); m.Now = 0 }},
		{"no threads, and Now -2", false, func(m *api.Image) { empty(m); m.Now = -2 }},
		{"no threads, but cells", false, func(m *api.Image) { m.Threads, m.Now = nil, -1 }},
	})
}

// P7.2: 16 threads, and one more; 40 frames, and one more.
func TestRightNumbers(t *testing.T) {
	for n := 14; n <= 18; n++ {
		m := standingImage()
		m.Threads[1].Id, m.Now, m.Born = 90, 90, 91
		for id := 2; len(m.Threads) < n; id++ {
			m.Threads = slices.Insert(m.Threads, len(m.Threads)-1, api.Thread{Id: id, Frames: []api.Frame{{Fun: 3}}})
		}
		verdict(t, "many threads", standing(), standingWorld(), m, n <= api.MaxThreads)
	}
	for n := 38; n <= 42; n++ {
		m := standingImage()
		frames := slices.Repeat(m.Threads[0].Frames[1:2], n-1)
		m.Threads[0].Frames = append(frames, m.Threads[0].Frames[2])
		verdict(t, "many frames", standing(), standingWorld(), m, n <= api.MaxFrames)
	}
}

// P7.2: Fun, Line and Vars of frames.
func TestRightFrames(t *testing.T) {
	frame := func(m *api.Image, n int) *api.Frame { return &m.Threads[0].Frames[n] }
	verdicts(t, []changed{
		{"a negative function", false, func(m *api.Image) { frame(m, 2).Fun = -1 }},
		{"no function", false, func(m *api.Image) { frame(m, 2).Fun = 6 }},
		{"a function without lines", false, func(m *api.Image) { *frame(m, 2) = api.Frame{Fun: 4} }},
		{"another function", true, func(m *api.Image) { *frame(m, 2) = api.Frame{Fun: 3} }},
		{"the last line", true, func(m *api.Image) { frame(m, 2).Line = 1 }},
		{"the end", false, func(m *api.Image) { *frame(m, 2) = api.Frame{Fun: 2, Line: 2, Vars: make([]api.Value, 1)} }},
		{"a negative line", false, func(m *api.Image) { frame(m, 2).Line = -1 }},
		{"the top frame at no call", true, func(m *api.Image) { *frame(m, 2) = api.Frame{Fun: 1, Line: 1, Vars: make([]api.Value, 4)} }},
		{"the top frame at a call", true, func(m *api.Image) { m.Threads[0].Frames = m.Threads[0].Frames[:1] }},
		{"a lower frame at an apply", true, func(m *api.Image) { frame(m, 1).Line = 2 }},
		{"a lower frame at a bind", false, func(m *api.Image) { frame(m, 1).Line = 1 }},
		{"a lower frame at a return", false, func(m *api.Image) { *frame(m, 1) = api.Frame{Fun: 1, Line: 3, Vars: make([]api.Value, 4)} }},
		{"the lowest frame at a new", false, func(m *api.Image) { *frame(m, 0) = api.Frame{Fun: 0, Line: 0, Vars: make([]api.Value, 2)} }},
		{"the lowest frame at its end", false, func(m *api.Image) { *frame(m, 0) = api.Frame{Fun: 0, Line: 12, Vars: make([]api.Value, 2)} }},
		{"too few variables", false, func(m *api.Image) { frame(m, 2).Vars = nil }},
		{"too few variables below", false, func(m *api.Image) { frame(m, 1).Vars = frame(m, 1).Vars[:3] }},
		{"too many variables", false, func(m *api.Image) { frame(m, 2).Vars = append(frame(m, 2).Vars, unset) }},
		{"live variables without values", true, func(m *api.Image) { frame(m, 1).Vars[0] = unset }},
		{"a value that is not right", false, func(m *api.Image) { frame(m, 2).Vars[0] = integer(api.MaxInt + 1) }},
		{"a value without a kind", false, func(m *api.Image) { frame(m, 2).Vars[0] = api.Value{Kind: api.Fun + 1} }},
		{"an unset value with a number", false, func(m *api.Image) { frame(m, 2).Vars[0] = api.Value{N: 1} }},
		{"an unset value with a string", false, func(m *api.Image) { frame(m, 1).Vars[1] = api.Value{S: "x"} }},
		{"a function as value", true, func(m *api.Image) { frame(m, 2).Vars[0] = api.Value{Kind: api.Fun, N: 23} }},
		{"a ref to another cell", true, func(m *api.Image) { frame(m, 2).Vars[0] = ref(9) }},
		{"a ref to no cell", false, func(m *api.Image) { frame(m, 2).Vars[0] = ref(4) }},
		{"a ref to the next cell", false, func(m *api.Image) { frame(m, 0).Vars[0] = ref(10) }},
	})
}

// P7.2: variables that are not live before the line of the top frame, or not across that of another one.
func TestRightLiveness(t *testing.T) {
	at := func(fun, line int, vars ...api.Value) api.Frame { return api.Frame{Fun: fun, Line: line, Vars: vars} }
	verdicts(t, []changed{
		{"the top frame reads it", true, func(m *api.Image) { m.Threads[0].Frames[2] = at(1, 2, null, unset, null, unset) }},
		{"a lower frame has read it", false, func(m *api.Image) { m.Threads[0].Frames[1] = at(1, 2, null, unset, null, unset) }},
		{"a lower frame is without it", true, func(m *api.Image) { m.Threads[0].Frames[1] = at(1, 2, null, unset, unset, unset) }},
		{"nobody reads b", false, func(m *api.Image) { m.Threads[0].Frames[1] = at(1, 2, null, null, unset, unset) }},
		{"c is written later", false, func(m *api.Image) { m.Threads[0].Frames[2] = at(1, 2, null, unset, null, null) }},
		{"k is written before it is read", false, func(m *api.Image) { m.Threads[0].Frames[2] = at(1, 0, null, unset, null, unset) }},
		{"x is written by the first line", false, func(m *api.Image) { m.Threads[0].Frames = []api.Frame{at(0, 0, ref(3), unset)} }},
		{"y is written, but not if the call throws", true, func(m *api.Image) { m.Threads[0].Frames[0].Vars[1] = yes }},
		{"y is written, but not if the call throws, before it", true, func(m *api.Image) { m.Threads[0].Frames = []api.Frame{at(0, 2, ref(3), yes)} }},
		{"x is not read at the last line", false, func(m *api.Image) { m.Threads[0].Frames = []api.Frame{at(0, 11, null, ref(3))} }},
		{"y is read at the last line", true, func(m *api.Image) { m.Threads[0].Frames = []api.Frame{at(0, 11, unset, ref(3))} }},
		{"the other thread's x", false, func(m *api.Image) {
			m.Threads[1].Frames[0] = at(0, 11, ref(5), ref(9))
		}},
	})
}

// P7.2: a frame has as many elements of Pend as there are finally parts that contain its line, or end at it.
func TestRightPendNumbers(t *testing.T) {
	p := parsed(t, standing())
	for fun, counts := range map[int]string{0: "000011122110", 1: "0000", 2: "00", 3: "0", 5: "0000000011110"} {
		for line, count := range counts {
			for n := range 4 {
				m := api.Image{Threads: []api.Thread{{Frames: []api.Frame{{Fun: fun, Line: line, Vars: make([]api.Value, len(info(t, p).Slots[fun])), Pend: make([]api.Pending, n)}}}}}
				m.Born, m.Fuel, m.Used = 1, []int{0, 0}, []int{0, 0}
				verdict(t, "pending", standing(), standingWorld(), m, n == int(count-'0'))
			}
		}
	}
}

// P7.2: what is pending.
func TestRightPend(t *testing.T) {
	pend := func(m *api.Image, n int) *api.Pending { return &m.Threads[1].Frames[0].Pend[n] }
	// The last element keeps the cell 9 visible: so this cell goes with it.
	last := func(d api.Pending) func(m *api.Image) {
		return func(m *api.Image) {
			*pend(m, 1) = d
			m.Cells = m.Cells[:4]
		}
	}
	long := str(strings.Repeat("x", api.MaxString+1))
	verdicts(t, []changed{
		{"nothing", true, last(api.Pending{})},
		{"nothing, with a value", false, last(api.Pending{Value: null})},
		{"nothing, with an unset value that is not right", false, last(api.Pending{Value: api.Value{N: 1}})},
		{"nothing, with a line", false, last(api.Pending{Place: place(0, 1)})},
		{"nothing, with a function", false, last(api.Pending{Place: place(1, 0)})},
		{"a return", true, last(api.Pending{Kind: api.PendReturn, Value: null})},
		{"a return with a place", false, last(api.Pending{Kind: api.PendReturn, Value: null, Place: place(0, 1)})},
		{"a return with a function", false, last(api.Pending{Kind: api.PendReturn, Value: null, Place: place(1, 0)})},
		{"a return without a value", false, last(api.Pending{Kind: api.PendReturn})},
		{"a return of a wrong value", false, last(api.Pending{Kind: api.PendReturn, Value: api.Value{Kind: api.Bool, N: 2}})},
		{"a throw", true, last(api.Pending{Kind: api.PendThrow, Value: null})},
		{"a throw from a last line", true, last(api.Pending{Kind: api.PendThrow, Value: null, Place: place(0, 11)})},
		{"a throw from an end", false, last(api.Pending{Kind: api.PendThrow, Value: null, Place: place(0, 12)})},
		{"a throw from a function without lines", false, last(api.Pending{Kind: api.PendThrow, Value: null, Place: place(4, 0)})},
		{"a throw from the last function", true, last(api.Pending{Kind: api.PendThrow, Value: null, Place: place(5, 12)})},
		{"a throw from no function", false, last(api.Pending{Kind: api.PendThrow, Value: null, Place: place(6, 0)})},
		{"a throw from a negative function", false, last(api.Pending{Kind: api.PendThrow, Value: null, Place: place(-1, 0)})},
		{"a throw from a negative line", false, last(api.Pending{Kind: api.PendThrow, Value: null, Place: place(0, -1)})},
		{"a throw without a value", false, last(api.Pending{Kind: api.PendThrow, Place: place(1, 2)})},
		{"a throw of a wrong value", false, last(api.Pending{Kind: api.PendThrow, Value: long, Place: place(1, 2)})},
		{"a throw of a ref to no cell", false, last(api.Pending{Kind: api.PendThrow, Value: ref(7), Place: place(1, 2)})},
		{"a return of a ref to no cell", false, last(api.Pending{Kind: api.PendReturn, Value: ref(7)})},
		{"no kind", false, last(api.Pending{Kind: 3, Value: null})},
		{"a negative kind", false, last(api.Pending{Kind: -1, Value: null})},
	})
	verdicts(t, []changed{
		{"the first one is nothing", true, func(m *api.Image) { *pend(m, 0) = api.Pending{} }},
		{"the first one is a return", true, func(m *api.Image) { *pend(m, 0) = api.Pending{Kind: api.PendReturn, Value: ref(5)} }},
		{"the first one is a return without a value", false, func(m *api.Image) { *pend(m, 0) = api.Pending{Kind: api.PendReturn} }},
		{"the first one is of no kind", false, func(m *api.Image) { *pend(m, 0) = api.Pending{Kind: 3, Value: null} }},
	})
	below := func(m *api.Image, pend ...api.Pending) {
		m.Threads[0].Frames[1] = api.Frame{Fun: 0, Line: 2, Vars: make([]api.Value, 2), Pend: pend}
	}
	verdicts(t, []changed{
		{"a lower frame with nothing pending", true, func(m *api.Image) { below(m) }},
		{"a lower frame with too much pending", false, func(m *api.Image) { below(m, api.Pending{}) }},
	})
}

// P7.2: cells and Next.
func TestRightCells(t *testing.T) {
	cell := func(m *api.Image, n int) *api.Cell { return &m.Cells[n].Cell }
	verdicts(t, []changed{
		{"a greater Next", true, func(m *api.Image) { m.Next = math.MaxInt }},
		{"the last id is not less than Next", false, func(m *api.Image) { m.Next = 9 }},
		{"a negative Next", false, func(m *api.Image) { m.Next = -1 }},
		{"ids that do not increase", false, func(m *api.Image) { m.Cells[0], m.Cells[1] = m.Cells[1], m.Cells[0] }},
		{"a cell that is not right", false, func(m *api.Image) { cell(m, 1).Class = 1 }},
		{"an unset item", false, func(m *api.Image) { cell(m, 0).Items[0] = unset }},
		{"an item that denotes nothing", false, func(m *api.Image) { cell(m, 0).Items[0] = ref(7) }},
		{"an item that denotes another cell", true, func(m *api.Image) { cell(m, 0).Items[0] = ref(9) }},
		{"a cell more, which is not visible", false, func(m *api.Image) {
			m.Cells = slices.Insert(m.Cells, 0, api.Entry{Id: 0, Cell: api.Cell{Kind: api.Array}})
			m.Used[0] += 16
		}},
		{"a cell more, which denotes itself", false, func(m *api.Image) {
			m.Cells = slices.Insert(m.Cells, 0, api.Entry{Id: 0, Cell: api.Cell{Kind: api.Array, Items: []api.Value{ref(0), ref(3)}}})
			m.Used[0] += 32
		}},
		{"a cell more, which is visible", true, func(m *api.Image) {
			m.Cells = slices.Insert(m.Cells, 0, api.Entry{Id: 0, Cell: api.Cell{Kind: api.Array}})
			m.Used[0] += 16
			cell(m, 4).Items = []api.Value{ref(0)}
			m.Used[0] += 8
		}},
		{"a target of a weak cell is missing", false, func(m *api.Image) { m.Cells = slices.Delete(m.Cells, 3, 4) }},
		{"a target of a weak cell is not visible", false, func(m *api.Image) { cell(m, 2).Items[0] = null }},
		{"a cell is visible no more", false, func(m *api.Image) { m.Threads[1].Frames[0].Pend[1].Value = null }},
		{"a cell that a value denotes is missing", false, func(m *api.Image) { m.Cells = m.Cells[:4] }},
		{"the other class", true, func(m *api.Image) { cell(m, 0).Class = 1 }},
		{"no class", false, func(m *api.Image) { cell(m, 0).Class = 2 }},
		{"a negative class", false, func(m *api.Image) { cell(m, 0).Class = -1 }},
		{"other fields than the class has", true, func(m *api.Image) { cell(m, 0).Names = []string{"q", "a b"} }},
		{"the last function", true, func(m *api.Image) { cell(m, 3).Fun = 5 }},
		{"no function", false, func(m *api.Image) { cell(m, 3).Fun = 6 }},
		{"a negative function", false, func(m *api.Image) { cell(m, 3).Fun = -1 }},
		{"more items than parameters", true, func(m *api.Image) {
			cell(m, 3).Items = []api.Value{yes, no}
			m.Used[0] += 16
		}},
		{"the other tenant", true, func(m *api.Image) { cell(m, 3).Tenant = 1; m.Used[1] += 16 }},
		{"a tenant that there is not", false, func(m *api.Image) { cell(m, 3).Tenant = 2 }},
		{"the last tenant of all worlds", false, func(m *api.Image) { cell(m, 3).Tenant = 3 }},
		{"no tenant", false, func(m *api.Image) { cell(m, 3).Tenant = 4 }},
	})
}

// P7.2: the classes of the program matter for objects alone, and its functions for closures.
func TestRightCellsWithoutClasses(t *testing.T) {
	text := "func main\nprint x\nendfunc\n"
	m := api.Image{
		Threads: []api.Thread{{Frames: []api.Frame{{Vars: []api.Value{ref(0)}}}}},
		Cells:   []api.Entry{{Cell: api.Cell{Kind: api.Array, Items: []api.Value{ref(1), ref(2)}}}, {Id: 1, Cell: api.Cell{Kind: api.Weak, Items: []api.Value{null}}}, {Id: 2, Cell: api.Cell{Kind: api.Closure}}},
		Next:    3, Born: 1, Fuel: []int{0}, Used: []int{72},
	}
	verdict(t, "without classes", text, rich(1), m, true)
	m.Cells[2].Cell.Fun = 1
	verdict(t, "no function", text, rich(1), m, false)
	m.Cells[2].Cell = api.Cell{Kind: api.Object}
	verdict(t, "no class", text, rich(1), m, false)
}

// P7.2: Next matters without cells, too.
func TestRightNext(t *testing.T) {
	p := parsed(t, greeting)
	for next, want := range map[int]bool{math.MinInt: false, -1: false, 0: true, 1: true, math.MaxInt: true} {
		m := Begin(p, rich(1))
		m.Next = next
		verdict(t, "without cells", greeting, rich(1), m, want)
	}
}

// P7.2: the place of what is not thrown is zero, even if this is no line.
func TestRightPendOfFirstFunction(t *testing.T) {
	text := written("func e", "endfunc", "func main", "try", "finally", "yield", "end", "endfunc")
	for _, c := range []struct {
		d    api.Pending
		want bool
	}{
		{api.Pending{}, true}, {api.Pending{Kind: api.PendReturn, Value: null}, true}, {api.Pending{Kind: api.PendThrow, Value: null}, false}, {api.Pending{Kind: api.PendThrow, Value: null, Place: place(1, 0)}, true},
	} {
		m := Begin(parsed(t, text), rich(1))
		m.Threads[0].Frames[0].Line, m.Threads[0].Frames[0].Pend = 2, []api.Pending{c.d}
		verdict(t, "pending", text, rich(1), m, c.want)
	}
}

// P7.2: Finals.
func TestRightFinals(t *testing.T) {
	set := func(f api.Final) func(m *api.Image) { return func(m *api.Image) { m.Finals[1] = f } }
	verdicts(t, []changed{
		{"none", true, func(m *api.Image) { m.Finals = nil }},
		{"many, of one cell", true, func(m *api.Image) { m.Finals = slices.Repeat([]api.Final{{Cell: 3, Fun: 3}}, 100) }},
		{"the function main", true, set(api.Final{})},
		{"a function without lines", true, set(api.Final{Cell: 9, Fun: 4, Tenant: 1})},
		{"a function with a parameter", false, set(api.Final{Cell: 3, Fun: 1})},
		{"the last function, which has a parameter", false, set(api.Final{Cell: 3, Fun: 5})},
		{"no function", false, set(api.Final{Cell: 3, Fun: 6})},
		{"a negative function", false, set(api.Final{Cell: 3, Fun: -1})},
		{"a tenant that there is not", false, set(api.Final{Cell: 3, Fun: 3, Tenant: 2})},
		{"a negative tenant", false, set(api.Final{Cell: 3, Fun: 3, Tenant: -1})},
		{"the last id", true, set(api.Final{Cell: 9, Fun: 3})},
		{"the next id", false, set(api.Final{Cell: 10, Fun: 3})},
		{"a negative id", false, set(api.Final{Cell: -1, Fun: 3})},
		{"the first of two", false, func(m *api.Image) { m.Finals[0].Fun = 2 }},
	})
}

// P7.2: Fuel, Used, and the other numbers.
func TestRightAccounts(t *testing.T) {
	verdicts(t, []changed{
		{"no fuel", true, func(m *api.Image) { m.Fuel = []int{0, 0} }},
		{"more fuel than in the world", true, func(m *api.Image) { m.Fuel = []int{math.MaxInt, api.MaxInt + 1} }},
		{"negative fuel", false, func(m *api.Image) { m.Fuel[0] = -1 }},
		{"negative fuel of the last tenant", false, func(m *api.Image) { m.Fuel[1] = -1 }},
		{"fuel of one tenant", false, func(m *api.Image) { m.Fuel = m.Fuel[:1] }},
		{"fuel of three tenants", false, func(m *api.Image) { m.Fuel = append(m.Fuel, 0) }},
		{"fuel of nobody", false, func(m *api.Image) { m.Fuel = nil }},
		{"less than the cells take", false, func(m *api.Image) { m.Used[0] = 47 }},
		{"less than the cells of the last tenant take", false, func(m *api.Image) { m.Used[1] = 87 }},
		{"more than the cells take", true, func(m *api.Image) { m.Used = []int{49, 89} }},
		{"more than the limit of the world", true, func(m *api.Image) { m.Used[0] = 101 }},
		{"the greatest of all limits", true, func(m *api.Image) { m.Used = []int{api.MaxLimit, api.MaxLimit} }},
		{"one more", false, func(m *api.Image) { m.Used[0] = api.MaxLimit + 1 }},
		{"one more, of the last tenant", false, func(m *api.Image) { m.Used[1] = api.MaxLimit + 1 }},
		{"bytes of one tenant", false, func(m *api.Image) { m.Used = m.Used[:1] }},
		{"bytes of three tenants", false, func(m *api.Image) { m.Used = append(m.Used, 0) }},
		{"no steps", true, func(m *api.Image) { m.Steps = 0 }},
		{"many steps", true, func(m *api.Image) { m.Steps = math.MaxInt }},
		{"negative steps", false, func(m *api.Image) { m.Steps = -1 }},
		{"no inputs, readings and choices", true, func(m *api.Image) { m.In, m.Clock, m.Choice = 0, 0, 0 }},
		{"a negative input", false, func(m *api.Image) { m.In = -1 }},
		{"a negative reading", false, func(m *api.Image) { m.Clock = -1 }},
		{"a negative choice", false, func(m *api.Image) { m.Choice = -1 }},
		{"too many inputs", false, func(m *api.Image) { m.In = 3 }},
		{"too many readings", false, func(m *api.Image) { m.Clock = 2 }},
		{"too many choices", false, func(m *api.Image) { m.Choice = 4 }},
	})
}

// P7.2: the Info must be that of the program; nil lists are like empty ones (R1).
func TestRightInfo(t *testing.T) {
	p, w, m := parsed(t, standing()), standingWorld(), standingImage()
	known := func() api.Info { return info(t, p) }
	for what, change := range map[string]func(i *api.Info){
		"zero":            func(i *api.Info) { *i = api.Info{} },
		"no slots":        func(i *api.Info) { i.Slots = nil },
		"another slot":    func(i *api.Info) { i.Slots[5][2] = "f" },
		"a slot more":     func(i *api.Info) { i.Slots[2] = append(i.Slots[2], "p") },
		"a slot less":     func(i *api.Info) { i.Slots[1] = i.Slots[1][:3] },
		"a function more": func(i *api.Info) { i.Slots = append(i.Slots, nil) },
		"another end":     func(i *api.Info) { i.Ends[5][12] = 1 },
		"an end less":     func(i *api.Info) { i.Ends[3] = nil },
		"ends more":       func(i *api.Info) { i.Ends = append(i.Ends, nil) },
		"another parent":  func(i *api.Info) { i.Parent[0][11] = 0 },
		"a parent more":   func(i *api.Info) { i.Parent[4] = []int{-1} },
		"no parents":      func(i *api.Info) { i.Parent = nil },
		"of another program": func(i *api.Info) {
			*i, _, _ = check.Check(parsed(t, greeting))
		},
	} {
		i := known()
		change(&i)
		if Right(p, i, w, m) {
			t.Errorf("an Info that is not that of the program: %s", what)
		}
	}
	i := known()
	i.Slots[4], i.Slots[3], i.Ends[4], i.Parent[4] = []string{}, nil, []int{}, nil
	if !Right(p, i, w, m) {
		t.Error("an Info with empty lists")
	}
}

// P7.2: programs and worlds that are refused have no right image.
func TestRightRefused(t *testing.T) {
	p := parsed(t, greeting)
	m := Begin(p, rich(1))
	if !Right(p, info(t, p), rich(1), m) {
		t.Error("the image at the beginning")
	}
	for _, w := range refusedWorlds() {
		n := len(w.Fuel)
		m := Copy(m)
		m.Fuel, m.Used = make([]int, n), make([]int, n)
		if Right(p, info(t, p), w, m) {
			t.Errorf("an image in the world %+v", w)
		}
	}
	for e, p := range refusedPrograms() {
		for _, i := range []api.Info{{}, {Slots: make([][]string, len(p.Funcs)), Ends: make([][]int, len(p.Funcs)), Parent: make([][]int, len(p.Funcs))}} {
			m := api.Image{Now: -1, Fuel: []int{0}, Used: []int{0}}
			if Right(p, i, rich(1), m) {
				t.Errorf("an image of a program with error %d", e)
			}
		}
	}
}
