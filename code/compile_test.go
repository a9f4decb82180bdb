package code

import (
	"reflect"
	"slices"
	"strings"
	"testing"

	"facsimile/api"
	"facsimile/check"
)

// sample has several classes and functions, and blocks of all kinds.
const sample = "class P f g\nmethod get h\nmethod put two\nclass Q\nclass R x\nmethod get two\n" +
	"func two a b\nx = call g\nif x\nreturn a\nelse\nreturn b\nend\nendfunc\n" +
	"func main\nc = true\nwhile c\ntry\nx = call two c c\ncatch e\nprint e\nfinally\nprint x\nend\nend\nendfunc\n" +
	"func g\nendfunc\n" +
	"func h self\nx = bind two self\nspawn 0 two x self\nendfunc\n"

// refuses checks that Compile returns an error, and nothing else.
func refuses(t *testing.T, what string, p api.Program, i api.Info, want api.Errno) {
	t.Helper()
	c, e := Compile(p, i)
	if e != want || !reflect.DeepEqual(c, api.Code{}) {
		t.Errorf("%s: error %d, want %d, and %+v", what, e, want, c)
	}
}

// P9.1: classes, names, parameters and slots.
func TestCompile(t *testing.T) {
	p := parsed(t, sample)
	c := compiled(t, p)
	if !reflect.DeepEqual(c.Classes, p.Classes) {
		t.Errorf("Classes = %+v", c.Classes)
	}
	if !slices.Equal(c.Names, []string{"two", "main", "g", "h"}) {
		t.Errorf("Names = %q", c.Names)
	}
	want := []struct{ params, slots, ins, handlers int }{{2, 3, 6, 0}, {0, 3, 9, 3}, {0, 0, 0, 0}, {1, 2, 2, 0}}
	if len(c.Funcs) != len(want) {
		t.Fatalf("%d functions", len(c.Funcs))
	}
	for n, w := range want {
		f := c.Funcs[n]
		if f.Params != w.params || f.Slots != w.slots || len(f.Ins) != w.ins || len(f.Handlers) != w.handlers {
			t.Errorf("function %d: %d, %d, %q", n, f.Params, f.Slots, shown(f))
		}
	}
}

// P9.1: the whole code of the sample.
func TestSample(t *testing.T) {
	c := compiled(t, parsed(t, sample))
	for n, want := range []string{
		"call (0), false to 4 (1), return (2), jump to 6 (3), return (4), nop (5)",
		"const (0), false to 9 (1), call (2 3), jump to 5 (4), print (5), enter (6), print (7), leave (8), jump to 1 (9), 2-3 to 4 in 2, 2-3 to 6 in -1 finally, 4-5 to 6 in -1 finally",
		"",
		"bind (0), spawn (1)",
	} {
		if got := strings.Join(shown(c.Funcs[n]), ", "); got != want {
			t.Errorf("function %d: %s\nwant %s", n, got, want)
		}
	}
}

// P9.1: a program with main alone, which has no lines.
func TestSmallestProgram(t *testing.T) {
	c := compiled(t, parsed(t, "func main\nendfunc\n"))
	if len(c.Classes) != 0 || !slices.Equal(c.Names, []string{"main"}) || len(c.Funcs) != 1 {
		t.Fatalf("%+v", c)
	}
	if f := c.Funcs[0]; f.Params != 0 || f.Slots != 0 || len(f.Ins) != 0 || len(f.Handlers) != 0 {
		t.Errorf("%+v", f)
	}
}

// P9.1: programs that check.Check refuses, for one reason each, with any Info: the error is that of check.Check.
func TestRefusedPrograms(t *testing.T) {
	i := info(t, parsed(t, sample))
	for what, c := range map[string]struct {
		err   api.Errno
		spoil func(*api.Program)
	}{
		"nothing":      {api.ErrMain, func(p *api.Program) { *p = api.Program{} }},
		"no functions": {api.ErrNone, func(p *api.Program) { p.Funcs = nil }},
		"no main":      {api.ErrMain, func(p *api.Program) { p.Funcs[1].Name = "Main" }},
		"13 classes":   {api.ErrMany, func(p *api.Program) { p.Classes = make([]api.Class, 13) }},
		"25 functions": {api.ErrMany, func(p *api.Program) { p.Funcs = make([]api.Func, 25) }},
		"a class":      {api.ErrName, func(p *api.Program) { p.Classes[0].Name = "if" }},
		"a method":     {api.ErrArity, func(p *api.Program) { p.Classes[0].Methods[0].Func = "g" }},
		"a function":   {api.ErrName, func(p *api.Program) { p.Funcs[3].Params[0] = "if" }},
		"61 lines":     {api.ErrMany, func(p *api.Program) { p.Funcs[2].Lines = slices.Repeat(p.Funcs[0].Lines[:1], 61) }},
		"25 slots":     {api.ErrMany, func(p *api.Program) { p.Funcs[3].Params = manyNames(25) }},
		"a line":       {api.ErrForm, func(p *api.Program) { p.Funcs[0].Lines[0].B = "x" }},
		"no such":      {api.ErrNone, func(p *api.Program) { p.Funcs[0].Lines[0].Name = "none" }},
		"arity":        {api.ErrArity, func(p *api.Program) { p.Funcs[1].Lines[3].Args = []string{"c"} }},
		"a block":      {api.ErrBlock, func(p *api.Program) { p.Funcs[0].Lines[3] = api.Line{Op: api.OpFinally} }},
		"no end":       {api.ErrBlock, func(p *api.Program) { p.Funcs[1].Lines = p.Funcs[1].Lines[:9] }},
	} {
		p := parsed(t, sample)
		c.spoil(&p)
		if _, _, e := check.Check(p); e != c.err {
			t.Errorf("%s: the test expects another error of Check than %d", what, e)
		}
		refuses(t, what, p, i, c.err)
		refuses(t, what+", without Info", p, api.Info{}, c.err)
	}
}

// manyNames returns n names that differ.
func manyNames(n int) []string {
	var list []string
	for k := range n {
		list = append(list, "v"+string(rune('a'+k)))
	}
	return list
}

// P9.1: an Info that is not that of the program, or differs from it in one thing.
func TestOtherInfos(t *testing.T) {
	p := parsed(t, sample)
	for what, spoil := range map[string]func(*api.Info){
		"nothing":         func(i *api.Info) { *i = api.Info{} },
		"no slots":        func(i *api.Info) { i.Slots = nil },
		"no ends":         func(i *api.Info) { i.Ends = nil },
		"no parents":      func(i *api.Info) { i.Parent = nil },
		"slots too few":   func(i *api.Info) { i.Slots = i.Slots[:3] },
		"ends too few":    func(i *api.Info) { i.Ends = i.Ends[:3] },
		"parent too few":  func(i *api.Info) { i.Parent = i.Parent[:3] },
		"slots too many":  func(i *api.Info) { i.Slots = append(i.Slots, nil) },
		"ends too many":   func(i *api.Info) { i.Ends = append(i.Ends, nil) },
		"parent too many": func(i *api.Info) { i.Parent = append(i.Parent, nil) },
		"a slot less":     func(i *api.Info) { i.Slots[0] = i.Slots[0][:2] },
		"an end less":     func(i *api.Info) { i.Ends[0] = i.Ends[0][:5] },
		"a parent less":   func(i *api.Info) { i.Parent[0] = i.Parent[0][:5] },
		"a slot more":     func(i *api.Info) { i.Slots[2] = []string{"x"} },
		"an end more":     func(i *api.Info) { i.Ends[3] = append(i.Ends[3], -1) },
		"a parent more":   func(i *api.Info) { i.Parent[1] = append(i.Parent[1], -1) },
		"another order":   func(i *api.Info) { slices.Reverse(i.Slots[0]) },
		"swapped":         func(i *api.Info) { slices.Reverse(i.Slots); slices.Reverse(i.Ends); slices.Reverse(i.Parent) },
		"another program": func(i *api.Info) { *i = info(t, mainOf(t, "x = 1")) },
	} {
		i := info(t, p)
		spoil(&i)
		refuses(t, what, p, i, api.ErrArg)
	}
}

// P9.1: an Info that is changed at one place, wherever it is.
func TestInfoChangedAtOnePlace(t *testing.T) {
	p := parsed(t, sample)
	i := info(t, p)
	for fun := range i.Slots {
		for n := range i.Slots[fun] {
			was := i.Slots[fun][n]
			for _, s := range []string{"", "other", was + "x"} {
				i.Slots[fun][n] = s
				refuses(t, "another slot", p, i, api.ErrArg)
			}
			i.Slots[fun][n] = was
		}
	}
	for fun := range i.Ends {
		for _, row := range [][]int{i.Ends[fun], i.Parent[fun]} {
			for n, was := range row {
				for _, by := range []int{1, -1, 1 << 62, -1 << 62} {
					row[n] = was + by
					refuses(t, "another line", p, i, api.ErrArg)
				}
				row[n] = was
			}
		}
	}
	if _, e := Compile(p, i); e != api.OK {
		t.Errorf("error %d of the Info as it was", e)
	}
}

// R1: nil lists and empty ones, in programs and Infos.
func TestEmptyLists(t *testing.T) {
	p := mainOf(t, "x = call g")
	want := compiled(t, p)
	i := info(t, p)
	for n := range i.Slots {
		if len(i.Slots[n]) == 0 {
			i.Slots[n] = []string{}
		}
		if len(i.Ends[n]) == 0 {
			i.Ends[n], i.Parent[n] = []int{}, []int{}
		}
	}
	p.Classes[1].Fields, p.Classes[1].Methods = []string{}, []api.Method{}
	p.Funcs[0].Params, p.Funcs[0].Lines[0].Args, p.Funcs[1].Lines = []string{}, []string{}, []api.Line{}
	c, e := Compile(p, i)
	if e != api.OK || !Equal(c, want) {
		t.Errorf("empty: error %d, %q", e, Text(c))
	}
	i.Slots[1], i.Ends[1], i.Parent[1] = nil, nil, nil
	if c, e := Compile(p, i); e != api.OK || !Equal(c, want) {
		t.Errorf("nil: error %d, %q", e, Text(c))
	}
}

// P9.1: the Info alone decides, not for which program it was made.
func TestInfoOfAlikeProgram(t *testing.T) {
	p, q := mainOf(t, "x = 1; print x"), mainOf(t, "x = 'a'; throw x")
	c, e := Compile(p, info(t, q))
	if e != api.OK || !Equal(c, compiled(t, p)) {
		t.Errorf("error %d, %q", e, Text(c))
	}
}

// P9.1: the greatest programs: 24 functions with 60 lines and 24 slots, 12 classes with 64 fields and many methods.
func TestLimits(t *testing.T) {
	p := parsed(t, "func main\n"+strings.Repeat("x = 1\n", 60)+"endfunc\nfunc f a b c d e f g h\n"+strings.Repeat("x = 1\n", 60)+"endfunc\n")
	p.Funcs[1].Params = manyNames(24)
	p.Funcs[1].Lines = slices.Repeat([]api.Line{{Op: api.OpMove, A: "vx", B: "va"}}, 60)
	for n := 2; n < 24; n++ {
		f := p.Funcs[1]
		f.Name = "f" + string(rune('a'+n))
		p.Funcs = append(p.Funcs, f)
	}
	var fields []string
	var methods []api.Method
	for n := range 64 {
		name := "x" + string(rune('a'+n/8)) + string(rune('a'+n%8))
		fields = append(fields, name)
		methods = append(methods, api.Method{Name: name, Func: "f"})
	}
	for n := range 12 {
		p.Classes = append(p.Classes, api.Class{Name: "C" + string(rune('a'+n)), Fields: fields, Methods: methods})
	}
	c := compiled(t, p)
	if len(c.Funcs) != 24 || len(c.Names) != 24 || !reflect.DeepEqual(c.Classes, p.Classes) {
		t.Fatalf("%d functions, %d names, %d classes", len(c.Funcs), len(c.Names), len(c.Classes))
	}
	for n, f := range c.Funcs[1:] {
		if f.Params != 24 || f.Slots != 24 || len(f.Ins) != 60 {
			t.Errorf("function %d: %d, %d, %d instructions", n+1, f.Params, f.Slots, len(f.Ins))
		}
	}
	if ins := c.Funcs[23].Ins[59]; ins.Op != api.OpMove || ins.A != 23 || ins.B != 0 || !slices.Equal(ins.Lines, []int{59}) {
		t.Errorf("%+v", ins)
	}
}
