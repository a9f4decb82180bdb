package verify

import (
	"math"
	"slices"
	"testing"

	"facsimile/api"
	"facsimile/check"
)

// sample has several classes and functions, and blocks of all kinds.
const sample = "class P f g\nmethod get h\nmethod put two\nclass Q\nclass R x\nmethod get two\n" +
	"func two a b\nx = call g\nif x\nreturn a\nelse\nreturn b\nend\nendfunc\n" +
	"func main\nc = true\nwhile c\ntry\nx = call two c c\ncatch e\nprint e\nfinally\nprint x\nend\nend\nendfunc\n" +
	"func g\nendfunc\n" +
	"func h self\nx = bind two self\nspawn 0 two x self\nendfunc\n"

// P10.2: the examples of the chapter.
func TestExamples(t *testing.T) {
	for _, x := range []struct {
		what   string
		change func(f *api.CodeFunc)
		at     int
		err    api.Errno
	}{
		{"none", unchanged, 0, api.OK},
		{"A of the first instruction is 1", func(f *api.CodeFunc) { f.Ins[0].A = 1 }, 0, api.ErrSlot},
		{"Lines of the BJump are 2, 1", linesOf(2, 2, 1), 2, api.ErrCharge},
		{"the BJump goes to 0", func(f *api.CodeFunc) { f.Ins[2].A = 0 }, 2, api.ErrTarget},
		{"the BFalse goes to 2", func(f *api.CodeFunc) { f.Ins[1].A = 2 }, 1, api.ErrTarget},
		{"one more instruction at the end, with Lines 7", func(f *api.CodeFunc) { f.Ins = append(f.Ins, api.Instr{Lines: []int{7}}) }, 1, api.ErrTarget},
	} {
		p := parsed(t, "func main\nx = true\nwhile x\nend\nendfunc\n")
		c := compiled(t, p)
		x.change(&c.Funcs[0])
		gives(t, x.what, p, c, api.Place{Line: x.at}, x.err)
	}
}

// P10.2: programs that check.Check refuses, for one reason each: the error and the place are those of check.Check, whatever the Info and the code are.
func TestRefusedPrograms(t *testing.T) {
	good := parsed(t, sample)
	i, c := info(t, good), compiled(t, good)
	names := []string{"a", "b", "c", "d", "e", "k", "l", "m", "n", "o", "p", "q", "r", "s", "t", "u", "v", "w", "x", "y", "z", "A", "B", "C", "D"}
	for _, x := range []struct {
		spoil func(*api.Program)
		at    api.Place
		err   api.Errno
	}{
		{func(p *api.Program) { *p = api.Program{} }, api.Place{}, api.ErrMain},
		{func(p *api.Program) { p.Funcs = nil }, api.Place{Fun: -1}, api.ErrNone},
		{func(p *api.Program) { p.Funcs[1].Name = "Main" }, api.Place{}, api.ErrMain},
		{func(p *api.Program) { p.Classes = make([]api.Class, 13) }, api.Place{Fun: -1, Line: 12}, api.ErrMany},
		{func(p *api.Program) { p.Funcs = make([]api.Func, 25) }, api.Place{Fun: 24}, api.ErrMany},
		{func(p *api.Program) { p.Classes[1].Name = "if" }, api.Place{Fun: -1, Line: 1}, api.ErrName},
		{func(p *api.Program) { p.Classes[0].Methods[0].Func = "g" }, api.Place{Fun: -1}, api.ErrArity},
		{func(p *api.Program) { p.Funcs[3].Params[0] = "if" }, api.Place{Fun: 3}, api.ErrName},
		{func(p *api.Program) { p.Funcs[2].Lines = slices.Repeat(p.Funcs[0].Lines[:1], 61) }, api.Place{Fun: 2}, api.ErrMany},
		{func(p *api.Program) { p.Funcs[3].Params = names }, api.Place{Fun: 3, Line: 2}, api.ErrMany},
		{func(p *api.Program) { p.Funcs[0].Lines[2].B = "x" }, api.Place{Line: 2}, api.ErrForm},
		{func(p *api.Program) { p.Funcs[0].Lines[0].Name = "none" }, api.Place{}, api.ErrNone},
		{func(p *api.Program) { p.Funcs[1].Lines[3].Args = []string{"c"} }, api.Place{Fun: 1, Line: 3}, api.ErrArity},
		{func(p *api.Program) { p.Funcs[0].Lines[3] = api.Line{Op: api.OpFinally} }, api.Place{Line: 3}, api.ErrBlock},
		{func(p *api.Program) { p.Funcs[1].Lines = p.Funcs[1].Lines[:9] }, api.Place{Fun: 1, Line: 9}, api.ErrBlock},
	} {
		p := parsed(t, sample)
		x.spoil(&p)
		if _, at, e := check.Check(p); at != x.at || e != x.err {
			t.Errorf("the test expects error %d at %v of check.Check, not %d at %v", x.err, x.at, e, at)
		}
		for _, i := range []api.Info{i, {}} {
			for _, c := range []api.Code{c, {}} {
				if at, e := Check(p, i, c); at != x.at || e != x.err {
					t.Errorf("error %d at %v, want %d at %v", e, at, x.err, x.at)
				}
			}
		}
	}
}

// otherInfo checks that an Info is refused, whatever the code is: its error comes before those of the code.
func otherInfo(t *testing.T, what string, p api.Program, i api.Info) {
	t.Helper()
	for _, c := range []api.Code{compiled(t, p), {}} {
		if at, e := Check(p, i, c); at != (api.Place{}) || e != api.ErrArg {
			t.Errorf("%s: error %d at %v", what, e, at)
		}
	}
}

// P10.2: an Info of another program, and one with lists too few or too many.
func TestOtherInfos(t *testing.T) {
	p := parsed(t, sample)
	for what, spoil := range map[string]func(*api.Info){
		"nothing":         func(i *api.Info) { *i = api.Info{} },
		"no slots":        func(i *api.Info) { i.Slots = nil },
		"no ends":         func(i *api.Info) { i.Ends = nil },
		"no parents":      func(i *api.Info) { i.Parent = nil },
		"slots too few":   func(i *api.Info) { i.Slots = i.Slots[:3] },
		"ends too few":    func(i *api.Info) { i.Ends = i.Ends[:3] },
		"parent too few":  func(i *api.Info) { i.Parent = i.Parent[:3] },
		"slots too many":  func(i *api.Info) { i.Slots = append(i.Slots, nil) },
		"ends too many":   func(i *api.Info) { i.Ends = append(i.Ends, nil) },
		"parent too many": func(i *api.Info) { i.Parent = append(i.Parent, nil) },
		"a slot less":     func(i *api.Info) { i.Slots[0] = i.Slots[0][:2] },
		"an end less":     func(i *api.Info) { i.Ends[0] = i.Ends[0][:5] },
		"a parent less":   func(i *api.Info) { i.Parent[0] = i.Parent[0][:5] },
		"a slot more":     func(i *api.Info) { i.Slots[2] = []string{"x"} },
		"an end more":     func(i *api.Info) { i.Ends[3] = append(i.Ends[3], -1) },
		"a parent more":   func(i *api.Info) { i.Parent[1] = append(i.Parent[1], -1) },
		"another order":   func(i *api.Info) { slices.Reverse(i.Slots); slices.Reverse(i.Ends); slices.Reverse(i.Parent) },
		"another program": func(i *api.Info) { *i = info(t, mainOf(t, "x = 1")) },
	} {
		i := info(t, p)
		spoil(&i)
		otherInfo(t, what, p, i)
	}
}

// P10.2: an Info that is changed in one place, wherever it is.
func TestInfoChangedInOnePlace(t *testing.T) {
	p := parsed(t, sample)
	i := info(t, p)
	for fun := range i.Slots {
		for n, was := range i.Slots[fun] {
			for _, s := range []string{"", "other", was + "x"} {
				i.Slots[fun][n] = s
				otherInfo(t, "another slot", p, i)
			}
			i.Slots[fun][n] = was
		}
	}
	for fun := range i.Ends {
		for _, row := range [][]int{i.Ends[fun], i.Parent[fun]} {
			for n, was := range row {
				for _, now := range []int{was - 1, was + 1, math.MinInt, math.MaxInt} {
					row[n] = now
					otherInfo(t, "another line", p, i)
				}
				row[n] = was
			}
		}
	}
	gives(t, "the Info as it was", p, compiled(t, p), api.Place{}, api.OK)
}

// P10.2: Classes, Names and Funcs that are not those of the program.
func TestHeads(t *testing.T) {
	p := parsed(t, sample)
	for what, spoil := range map[string]func(*api.Code){
		"nothing":               func(c *api.Code) { *c = api.Code{} },
		"no classes":            func(c *api.Code) { c.Classes = nil },
		"no first class":        func(c *api.Code) { c.Classes = c.Classes[1:] },
		"no last class":         func(c *api.Code) { c.Classes = c.Classes[:2] },
		"a class more":          func(c *api.Code) { c.Classes = append(c.Classes, api.Class{}) },
		"classes swapped":       func(c *api.Code) { c.Classes[0], c.Classes[2] = c.Classes[2], c.Classes[0] },
		"another class":         func(c *api.Code) { c.Classes[2].Name = "r" },
		"another field":         func(c *api.Code) { c.Classes[2].Fields[0] = "X" },
		"no field":              func(c *api.Code) { c.Classes[2].Fields = nil },
		"a field more":          func(c *api.Code) { c.Classes[1].Fields = []string{""} },
		"fields swapped":        func(c *api.Code) { slices.Reverse(c.Classes[0].Fields) },
		"another method":        func(c *api.Code) { c.Classes[0].Methods[1].Name = "x" },
		"another function":      func(c *api.Code) { c.Classes[0].Methods[1].Func = "h" },
		"no method":             func(c *api.Code) { c.Classes[2].Methods = nil },
		"a method more":         func(c *api.Code) { c.Classes[1].Methods = make([]api.Method, 1) },
		"methods swapped":       func(c *api.Code) { slices.Reverse(c.Classes[0].Methods) },
		"no names":              func(c *api.Code) { c.Names = nil },
		"no first name":         func(c *api.Code) { c.Names = c.Names[1:] },
		"no last name":          func(c *api.Code) { c.Names = c.Names[:3] },
		"a name more":           func(c *api.Code) { c.Names = append(c.Names, "") },
		"another name":          func(c *api.Code) { c.Names[3] = "H" },
		"names swapped":         func(c *api.Code) { c.Names[1], c.Names[2] = c.Names[2], c.Names[1] },
		"no functions":          func(c *api.Code) { c.Funcs = nil },
		"no last function":      func(c *api.Code) { c.Funcs = c.Funcs[:3] },
		"a function more":       func(c *api.Code) { c.Funcs = append(c.Funcs, api.CodeFunc{}) },
		"wrong functions, too":  func(c *api.Code) { c.Names[0], c.Funcs[0] = "", api.CodeFunc{Slots: -1} },
		"wrong functions, also": func(c *api.Code) { c.Funcs = make([]api.CodeFunc, 5) },
	} {
		c := compiled(t, p)
		spoil(&c)
		gives(t, what, p, c, api.Place{Fun: -1}, api.ErrCode)
	}
	c := compiled(t, p)
	slices.Reverse(c.Funcs)
	gives(t, "functions swapped", p, c, api.Place{}, api.ErrSlot)
}

// P10.2: Params and Slots of each function; the first function counts.
func TestParamsAndSlots(t *testing.T) {
	p := parsed(t, sample)
	for fun := range p.Funcs {
		for _, by := range []int{-1, 1, math.MinInt, math.MaxInt} {
			for what, change := range map[string]func(*api.CodeFunc){
				"Params": func(f *api.CodeFunc) { f.Params += by },
				"Slots":  func(f *api.CodeFunc) { f.Slots += by },
				"both":   func(f *api.CodeFunc) { f.Params, f.Slots = f.Slots+by, f.Params+by },
				"with others": func(f *api.CodeFunc) {
					f.Slots += by
					f.Ins, f.Handlers = nil, nil
				},
			} {
				c := compiled(t, p)
				change(&c.Funcs[fun])
				gives(t, what, p, c, api.Place{Fun: fun}, api.ErrSlot)
				for later := fun + 1; later < len(c.Funcs); later++ {
					c.Funcs[later] = api.CodeFunc{Params: -1}
				}
				gives(t, what+", and of later ones", p, c, api.Place{Fun: fun}, api.ErrSlot)
			}
		}
	}
}

// R1: nil lists and empty ones, in programs, Infos and codes.
func TestEmptyLists(t *testing.T) {
	p := mainOf(t, "x = call g")
	i, c := info(t, p), compiled(t, p)
	p.Classes[1].Fields, p.Classes[1].Methods = []string{}, []api.Method{}
	p.Funcs[0].Params, p.Funcs[0].Lines[0].Args, p.Funcs[1].Lines = []string{}, []string{}, []api.Line{}
	for _, slots := range [][]string{nil, {}} {
		for _, lines := range [][]int{nil, {}} {
			i.Slots[1], i.Ends[1], i.Parent[1] = slots, lines, lines
			c.Classes[1].Fields, c.Funcs[0].Ins[0].Args = slots, lines
			for _, methods := range [][]api.Method{nil, {}} {
				c.Classes[1].Methods = methods
				for _, f := range []api.CodeFunc{{}, {Ins: []api.Instr{}, Handlers: []api.Handler{}}} {
					c.Funcs[1] = f
					if at, e := Check(p, i, c); at != (api.Place{}) || e != api.OK {
						t.Errorf("error %d at %v", e, at)
					}
				}
			}
		}
	}
}
