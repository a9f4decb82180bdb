package live

import (
	"math"
	"reflect"
	"slices"
	"testing"

	"facsimile/api"
	"facsimile/check"
)

// answersNothing checks that all functions do what they do for a program that is not accepted with an Info.
func answersNothing(t *testing.T, what string, p api.Program, i api.Info) {
	t.Helper()
	for fun := -1; fun <= len(p.Funcs) && fun < 40; fun++ {
		if rows := Before(p, i, fun); len(rows) > 0 {
			t.Errorf("%s: Before of %d = %v", what, fun, rows)
		}
		if rows := Across(p, i, fun); len(rows) > 0 {
			t.Errorf("%s: Across of %d = %v", what, fun, rows)
		}
	}
	if got := Clear(p, i, fullImage()); !reflect.DeepEqual(got, fullImage()) {
		t.Errorf("%s: Clear = %+v", what, got)
	}
	if roots := Roots(p, i, fullImage()); len(roots) > 0 {
		t.Errorf("%s: Roots = %v", what, roots)
	}
}

// answers checks that all functions know the program caller with an Info.
func answers(t *testing.T, what string, p api.Program, i api.Info) {
	t.Helper()
	if rows := Before(p, i, 1); len(rows) != 5 {
		t.Errorf("%s: Before = %v", what, rows)
	}
	if rows := Across(p, i, 1); len(rows) != 4 {
		t.Errorf("%s: Across = %v", what, rows)
	}
	if got := Clear(p, i, fullImage()); got.Threads[0].Frames[0].Vars[1] != unset {
		t.Errorf("%s: Clear = %+v", what, got)
	}
	if roots := Roots(p, i, fullImage()); !slices.Equal(roots, []api.Value{ref(0), ref(4), ref(3), ref(5), ref(4)}) {
		t.Errorf("%s: Roots = %v", what, roots)
	}
}

// P5.1: numbers of no function.
func TestNoFunction(t *testing.T) {
	p := parsed(t, caller)
	i := info(t, p)
	for _, fun := range []int{-1, 2, 3, 24, math.MinInt, math.MaxInt} {
		if rows := Before(p, i, fun); len(rows) > 0 {
			t.Errorf("Before of %d = %v", fun, rows)
		}
		if rows := Across(p, i, fun); len(rows) > 0 {
			t.Errorf("Across of %d = %v", fun, rows)
		}
	}
	answers(t, "caller", p, i)
}

// All functions: programs that check.Check refuses, for one reason each, with the Info that they had without it.
func TestRefusedPrograms(t *testing.T) {
	i := info(t, parsed(t, caller))
	for what, spoil := range map[string]func(*api.Program){
		"class":      func(p *api.Program) { p.Classes = []api.Class{{Name: "if"}} },
		"13 classes": func(p *api.Program) { p.Classes = make([]api.Class, 13) },
		"a method": func(p *api.Program) {
			p.Classes = []api.Class{{Name: "A", Methods: []api.Method{{Name: "m", Func: "g"}}}}
		},
		"a name":      func(p *api.Program) { p.Funcs[1].Name = "" },
		"two names":   func(p *api.Program) { p.Funcs[1].Params[2] = "x" },
		"61 lines":    func(p *api.Program) { p.Funcs[1].Lines = slices.Repeat(p.Funcs[1].Lines[:1], 61) },
		"25 slots":    func(p *api.Program) { p.Funcs[1].Params = make([]string, 25) },
		"a line":      func(p *api.Program) { p.Funcs[1].Lines[0].B = "x" },
		"no function": func(p *api.Program) { p.Funcs[1].Lines[1].Name = "g" },
		"arity":       func(p *api.Program) { p.Funcs[1].Lines[1].Args = nil },
		"a block":     func(p *api.Program) { p.Funcs[1].Lines[0] = api.Line{Op: api.OpEnd} },
		"no end":      func(p *api.Program) { p.Funcs[1].Lines[0] = api.Line{Op: api.OpTry} },
		"no main":     func(p *api.Program) { p.Funcs[0].Name = "Main" },
		"main has x":  func(p *api.Program) { p.Funcs[0].Params = []string{"x"} },
		"nothing":     func(p *api.Program) { *p = api.Program{} },
		"25 funcs":    func(p *api.Program) { p.Funcs = append(p.Funcs, make([]api.Func, 23)...) },
	} {
		p := parsed(t, caller)
		spoil(&p)
		answersNothing(t, what, p, i)
		answersNothing(t, what+", without Info", p, api.Info{})
	}
}

// All functions: the Info is that of another program, or differs from that of Check in one thing.
func TestOtherInfos(t *testing.T) {
	p := parsed(t, caller)
	for what, spoil := range map[string]func(*api.Info){
		"nothing":        func(i *api.Info) { *i = api.Info{} },
		"no slots":       func(i *api.Info) { i.Slots = nil },
		"no ends":        func(i *api.Info) { i.Ends = nil },
		"no parents":     func(i *api.Info) { i.Parent = nil },
		"slots too few":  func(i *api.Info) { i.Slots = i.Slots[:1] },
		"ends too few":   func(i *api.Info) { i.Ends = i.Ends[:1] },
		"parent too few": func(i *api.Info) { i.Parent = i.Parent[:1] },
		"slots too many": func(i *api.Info) { i.Slots = append(i.Slots, nil) },
		"ends too many":  func(i *api.Info) { i.Ends = append(i.Ends, nil) },
		"parent too many": func(i *api.Info) {
			i.Parent = append(i.Parent, nil)
		},
		"a slot less":       func(i *api.Info) { i.Slots[1] = i.Slots[1][:2] },
		"an end less":       func(i *api.Info) { i.Ends[1] = i.Ends[1][:3] },
		"a parent less":     func(i *api.Info) { i.Parent[1] = i.Parent[1][:3] },
		"a slot more":       func(i *api.Info) { i.Slots[0] = []string{"x"} },
		"an end more":       func(i *api.Info) { i.Ends[0] = []int{-1} },
		"a parent more":     func(i *api.Info) { i.Parent[0] = []int{-1} },
		"another name":      func(i *api.Info) { i.Slots[1][2] = "a" },
		"another order":     func(i *api.Info) { slices.Reverse(i.Slots[1]) },
		"another end":       func(i *api.Info) { i.Ends[1][3] = 0 },
		"another parent":    func(i *api.Info) { i.Parent[1][0] = 0 },
		"far beyond":        func(i *api.Info) { i.Ends[1][0], i.Parent[1][0] = math.MaxInt, math.MinInt },
		"functions swapped": func(i *api.Info) { slices.Reverse(i.Slots); slices.Reverse(i.Ends); slices.Reverse(i.Parent) },
		"another program": func(i *api.Info) {
			*i = info(t, parsed(t, "func main\nendfunc\nfunc f x y z\nif x\nx = y\nend\nreturn x\nendfunc\n"))
		},
	} {
		i := info(t, p)
		spoil(&i)
		answersNothing(t, what, p, i)
	}
}

// R1: in an Info a nil list is like an empty one.
func TestEmptyLists(t *testing.T) {
	p := parsed(t, caller)
	i := info(t, p)
	i.Slots[0], i.Ends[0], i.Parent[0] = nil, nil, nil
	answers(t, "nil", p, i)
	i.Slots[0], i.Ends[0], i.Parent[0] = []string{}, []int{}, []int{}
	answers(t, "empty", p, i)
	p.Classes, p.Funcs[0].Params, p.Funcs[0].Lines, p.Funcs[1].Lines[0].Args = []api.Class{}, []string{}, []api.Line{}, []string{}
	answers(t, "empty program", p, i)
}

// The Info of a program that differs from another one only in what Check does not tell in it will do for both.
func TestInfoOfAlikeProgram(t *testing.T) {
	p := parsed(t, caller)
	q := parsed(t, caller)
	q.Funcs[1].Lines[0].Const = integer(2)
	answers(t, "alike", p, info(t, q))
}

// R3: neither the program nor the Info nor the image that is passed is changed, and results share no memory with them.
func TestMemory(t *testing.T) {
	p := parsed(t, caller)
	i := info(t, p)
	m := fullImage()
	unchanged := func(what string) {
		t.Helper()
		if !reflect.DeepEqual(p, parsed(t, caller)) {
			t.Errorf("%s changes the program: %+v", what, p)
		}
		if again, _, _ := check.Check(p); !reflect.DeepEqual(i, again) {
			t.Errorf("%s changes the Info: %+v", what, i)
		}
		if !reflect.DeepEqual(m, fullImage()) {
			t.Errorf("%s changes the image: %+v", what, m)
		}
	}
	for fun := range p.Funcs {
		before, across := Before(p, i, fun), Across(p, i, fun)
		unchanged("Before and Across")
		kept := [][][]bool{cloneRows(before), cloneRows(across)}
		spoilRows(Before(p, i, fun))
		spoilRows(Across(p, i, fun))
		unchanged("whoever changes what Before and Across return")
		if !sameRows(before, kept[0]) || !sameRows(across, kept[1]) || !sameRows(Before(p, i, fun), kept[0]) || !sameRows(Across(p, i, fun), kept[1]) {
			t.Errorf("rows of function %d are shared", fun)
		}
	}
	cleared := Clear(p, i, m)
	unchanged("Clear")
	spoilImage(&cleared)
	unchanged("whoever changes what Clear returns")
	refused := Clear(api.Program{}, i, m)
	unchanged("Clear without a program")
	spoilImage(&refused)
	unchanged("whoever changes what Clear returns without a program")
	roots := Roots(p, i, m)
	unchanged("Roots")
	roots = append(roots, ref(1))
	for n := range roots {
		roots[n] = null
	}
	unchanged("whoever changes what Roots returns")
}

// P5.1: no two rows of a result share memory, however long they grow.
func TestRowsAreApart(t *testing.T) {
	p := parsed(t, caller)
	i := info(t, p)
	for _, rows := range [][][]bool{Before(p, i, 1), Across(p, i, 1)} {
		kept := cloneRows(rows)
		for n := range rows {
			_ = append(rows[n], true, true, true)
			for slot := range rows[n] {
				rows[n][slot] = !rows[n][slot]
			}
			kept[n] = slices.Clone(rows[n])
			if !sameRows(rows, kept) {
				t.Errorf("row %d shares memory with another one", n)
			}
		}
	}
}

func spoilRows(rows [][]bool) {
	for n := range rows {
		for slot := range rows[n] {
			rows[n][slot] = !rows[n][slot]
		}
	}
}

// spoilImage changes all that the lists of an image have.
func spoilImage(m *api.Image) {
	for n := range m.Threads {
		frames := m.Threads[n].Frames
		for k := range frames {
			for slot := range frames[k].Vars {
				frames[k].Vars[slot] = str("spoilt")
			}
			for at := range frames[k].Pend {
				frames[k].Pend[at] = api.Pending{Kind: 9}
			}
			frames[k] = api.Frame{Fun: 99}
		}
		m.Threads[n] = api.Thread{Id: 99}
	}
	for n := range m.Cells {
		c := m.Cells[n].Cell
		for k := range c.Names {
			c.Names[k] = "spoilt"
		}
		for k := range c.Items {
			c.Items[k] = str("spoilt")
		}
		m.Cells[n] = api.Entry{Id: 99}
	}
	for n := range m.Finals {
		m.Finals[n] = api.Final{Cell: 99}
	}
	for _, l := range [][]int{m.Fuel, m.Used} {
		for n := range l {
			l[n] = 99
		}
	}
}

// P5.2, P5.3: an image that is larger than any of a machine: 40000 frames, with 24 variables each.
func TestLargeImage(t *testing.T) {
	p := parsed(t, "func main\na = apply b c d e f g h i j\nk = apply l m n o p q r s t\nu = apply v w x\nreturn a\nendfunc\n")
	i := info(t, p)
	if len(i.Slots[0]) != api.MaxSlots {
		t.Fatalf("%d slots", len(i.Slots[0]))
	}
	var m api.Image
	for range 200 {
		var frames []api.Frame
		for range 200 {
			frames = append(frames, api.Frame{Line: 2, Vars: refsFrom(0, 24)})
		}
		m.Threads = append(m.Threads, api.Thread{Frames: frames})
	}
	// Across the line 2 only a is live, and before it v, w and x, too.
	cleared := Clear(p, i, m)
	for n, th := range cleared.Threads {
		for k, f := range th.Frames {
			want := 1
			if k == 199 {
				want = 4
			}
			if got := 24 - len(slices.DeleteFunc(slices.Clone(f.Vars), func(v api.Value) bool { return v != unset })); got != want {
				t.Fatalf("thread %d, frame %d: %d variables", n, k, got)
			}
		}
	}
	if roots := Roots(p, i, m); len(roots) != 200*(199+4) {
		t.Errorf("%d roots", len(roots))
	}
}

// P1: with any program and any Info all functions end without a panic.
func TestAnyArguments(t *testing.T) {
	infos := []api.Info{{}, info(t, parsed(t, caller)), {Slots: [][]string{nil, nil}, Ends: [][]int{{5}, {-7}}, Parent: [][]int{{0}, {1}}}}
	programs := []api.Program{{}, parsed(t, caller), {Funcs: []api.Func{{Name: "main"}}}, {Classes: make([]api.Class, 1000), Funcs: make([]api.Func, 1000)}}
	for op := -1; op <= api.OpEnd+1; op++ {
		programs = append(programs, api.Program{Funcs: []api.Func{{Name: "main", Lines: []api.Line{{Op: op, A: "a"}, {Op: op}, {Op: op, A: "a", B: "b"}}}}})
	}
	for _, p := range programs {
		own, _, _ := check.Check(p)
		for _, i := range append(infos, own) {
			for _, fun := range []int{-1, 0, 1, 999, math.MaxInt} {
				Before(p, i, fun)
				Across(p, i, fun)
			}
			for n, f := range wrongFrames() {
				m := imageOf(f, f, f)
				if got := Clear(p, i, m); len(got.Threads) != 1 || len(got.Threads[0].Frames) != 3 {
					t.Errorf("%d: Clear = %+v", n, got)
				}
				Roots(p, i, m)
			}
		}
	}
}
