package lang

import (
	"reflect"
	"slices"
	"strings"
	"testing"

	"facsimile/api"
)

// changes are changes of the sample program that leave it right, and others that do not.
type change struct {
	name  string
	right bool
	do    func(p *api.Program)
}

func changes() []change {
	return append(classChanges(), funcChanges()...)
}

func classChanges() []change {
	return []change{
		{"no class", true, func(p *api.Program) { p.Classes = nil }},
		{"12 classes", true, func(p *api.Program) { p.Classes = slices.Repeat(p.Classes[1:], 12) }},
		{"13 classes", false, func(p *api.Program) { p.Classes = slices.Repeat(p.Classes[1:], 13) }},
		{"a class without a name", false, func(p *api.Program) { p.Classes[0].Name = "" }},
		{"a class with a word", false, func(p *api.Program) { p.Classes[1].Name = "class" }},
		{"a class with two names", false, func(p *api.Program) { p.Classes[1].Name = "A b" }},
		{"a class with a line", false, func(p *api.Program) { p.Classes[1].Name = "A\nclass B" }},
		{"8 fields", true, func(p *api.Program) { p.Classes[0].Fields = strings.Fields(eight) }},
		{"9 fields", false, func(p *api.Program) { p.Classes[0].Fields = strings.Fields(eight + " i") }},
		{"a field without a name", false, func(p *api.Program) { p.Classes[0].Fields[1] = "" }},
		{"a field with two names", false, func(p *api.Program) { p.Classes[0].Fields[1] = "a b" }},
		{"a field with a word", false, func(p *api.Program) { p.Classes[0].Fields[0] = "end" }},
		{"a long field", false, func(p *api.Program) { p.Classes[0].Fields[0] = "abcdefghijklm" }},
		{"fields there twice", true, func(p *api.Program) { p.Classes[0].Fields[0] = "y" }},
		{"8 methods", true, func(p *api.Program) { p.Classes[0].Methods = slices.Repeat(p.Classes[0].Methods, 4) }},
		{"9 methods", false, func(p *api.Program) {
			p.Classes[0].Methods = append(slices.Repeat(p.Classes[0].Methods, 4), p.Classes[0].Methods[0])
		}},
		{"a method without a name", false, func(p *api.Program) { p.Classes[0].Methods[0].Name = "" }},
		{"a method without a function", false, func(p *api.Program) { p.Classes[0].Methods[0].Func = "" }},
		{"a method with a word", false, func(p *api.Program) { p.Classes[0].Methods[1].Name = "method" }},
		{"a method with a bad function", false, func(p *api.Program) { p.Classes[0].Methods[1].Func = "a b" }},
		{"a method with a line", false, func(p *api.Program) { p.Classes[0].Methods[0].Func = "f\nmethod m f" }},
		{"a method with an unknown function", true, func(p *api.Program) { p.Classes[0].Methods[0].Func = "unknown" }},
	}
}

func funcChanges() []change {
	return []change{
		{"nothing", true, func(p *api.Program) {}},
		{"empty lists", true, func(p *api.Program) {
			p.Classes[1].Fields, p.Classes[1].Methods = []string{}, []api.Method{}
			p.Funcs[2].Params, p.Funcs[2].Lines = []string{}, []api.Line{}
		}},
		{"nothing at all", true, func(p *api.Program) { *p = api.Program{} }},
		{"no function", true, func(p *api.Program) { p.Funcs = nil }},
		{"24 functions", true, func(p *api.Program) { p.Funcs = slices.Repeat(p.Funcs, 8) }},
		{"25 functions", false, func(p *api.Program) { p.Funcs = append(slices.Repeat(p.Funcs, 8), p.Funcs[2]) }},
		{"a function without a name", false, func(p *api.Program) { p.Funcs[0].Name = "" }},
		{"a function with a word", false, func(p *api.Program) { p.Funcs[0].Name = "func" }},
		{"a function with a parameter in its name", false, func(p *api.Program) { p.Funcs[0].Name = "f x" }},
		{"functions there twice", true, func(p *api.Program) { p.Funcs[1].Name = "main" }},
		{"8 parameters", true, func(p *api.Program) { p.Funcs[0].Params = strings.Fields(eight) }},
		{"9 parameters", false, func(p *api.Program) { p.Funcs[0].Params = strings.Fields(eight + " i") }},
		{"a parameter without a name", false, func(p *api.Program) { p.Funcs[1].Params[1] = "" }},
		{"a parameter with a word", false, func(p *api.Program) { p.Funcs[1].Params[1] = "nil" }},
		{"60 lines", true, func(p *api.Program) { p.Funcs[2].Lines = slices.Repeat(p.Funcs[1].Lines, 60) }},
		{"61 lines", false, func(p *api.Program) { p.Funcs[2].Lines = slices.Repeat(p.Funcs[1].Lines, 61) }},
		{"a zero line", false, func(p *api.Program) { p.Funcs[0].Lines[0] = api.Line{} }},
		{"a line with a field too many", false, func(p *api.Program) { p.Funcs[0].Lines[2].B = "x" }},
		{"a line with two lines", false, func(p *api.Program) { p.Funcs[0].Lines[2].A = "x\nprint y" }},
		{"a line that ends its function", false, func(p *api.Program) { p.Funcs[0].Lines[2].A = "x\nendfunc\nfunc g\nprint x" }},
		{"a line of no operator", false, func(p *api.Program) { p.Funcs[0].Lines[2].Op = 100 }},
		{"a line with 8 arguments", true, func(p *api.Program) { p.Funcs[0].Lines[1].Args = strings.Fields(eight) }},
		{"a line with 9 arguments", false, func(p *api.Program) { p.Funcs[0].Lines[1].Args = strings.Fields(eight + " i") }},
	}
}

// P1.2: the text of right programs alone.
func TestPrint(t *testing.T) {
	for _, c := range changes() {
		p := sampleProgram()
		c.do(&p)
		s := Print(p)
		if !c.right && s != "" {
			t.Errorf("%s: %q", c.name, s)
		}
		if got, at, e := Parse(s); c.right && (e != api.OK || at != 0 || !Equal(got, p)) {
			t.Errorf("%s: %q, and from it %+v, %d, %v", c.name, s, got, at, e)
		}
	}
	if Print(api.Program{}) != "" || Print(api.Program{Funcs: []api.Func{{Name: "f"}}}) != "func f\nendfunc\n" {
		t.Error("Print of small programs")
	}
	many := api.Program{Funcs: []api.Func{{Name: "f", Lines: make([]api.Line, 1000000)}}, Classes: make([]api.Class, 1000000)}
	if Print(many) != "" || Print(api.Program{Funcs: make([]api.Func, 1000000)}) != "" {
		t.Error("Print of programs far beyond the limits")
	}
}

// R3: Print, Line and Equal leave their arguments as they are.
func TestArgumentsAreKept(t *testing.T) {
	p := sampleProgram()
	Print(p)
	Equal(p, p)
	for _, f := range p.Funcs {
		for _, l := range f.Lines {
			Line(l)
		}
	}
	if !reflect.DeepEqual(p, sampleProgram()) {
		t.Errorf("the program is now %+v", p)
	}
}

// P1.4: a change of any field makes programs differ, right or not.
func TestEqual(t *testing.T) {
	if !Equal(api.Program{}, api.Program{}) || !Equal(api.Program{Classes: []api.Class{}}, api.Program{Funcs: []api.Func{}}) {
		t.Error("empty programs differ")
	}
	all := append(changes(), fieldChanges()...)
	for n, c := range all {
		p, q := sampleProgram(), sampleProgram()
		c.do(&p)
		c.do(&q)
		if !Equal(p, q) || !Equal(p, p) {
			t.Errorf("%s: a program differs from itself", c.name)
		}
		same := c.name == "nothing" || c.name == "empty lists"
		if r := sampleProgram(); Equal(p, r) != same || Equal(r, p) != same {
			t.Errorf("%s: Equal is not %t", c.name, same)
		}
		for k, d := range all[:n] {
			r := sampleProgram()
			d.do(&r)
			same := same && (d.name == "nothing" || d.name == "empty lists")
			if Equal(p, r) != same || Equal(r, p) != same {
				t.Errorf("%d %s and %d %s: Equal is not %t", n, c.name, k, d.name, same)
			}
		}
	}
}

// fieldChanges changes each field of a line, and the order and the lengths of lists.
func fieldChanges() []change {
	line := func(p *api.Program) *api.Line { return &p.Funcs[0].Lines[1] }
	return []change{
		{"Op", false, func(p *api.Program) { line(p).Op = api.OpApply }},
		{"A", false, func(p *api.Program) { line(p).A = "z" }},
		{"B", false, func(p *api.Program) { line(p).B = "z" }},
		{"C", false, func(p *api.Program) { line(p).C = "z" }},
		{"Name", false, func(p *api.Program) { line(p).Name = "z" }},
		{"Const.Kind", false, func(p *api.Program) { line(p).Const.Kind = api.Nil }},
		{"Const.N", false, func(p *api.Program) { line(p).Const.N = 1 }},
		{"Const.S", false, func(p *api.Program) { line(p).Const.S = "z" }},
		{"an argument", false, func(p *api.Program) { line(p).Args[0] = "z" }},
		{"one argument more", false, func(p *api.Program) { line(p).Args = append(line(p).Args, "p") }},
		{"no argument", false, func(p *api.Program) { line(p).Args = nil }},
		{"lines in another order", false, func(p *api.Program) { slices.Reverse(p.Funcs[0].Lines) }},
		{"one line less", false, func(p *api.Program) { p.Funcs[0].Lines = p.Funcs[0].Lines[:2] }},
		{"parameters in another order", false, func(p *api.Program) { slices.Reverse(p.Funcs[1].Params) }},
		{"functions in another order", false, func(p *api.Program) { slices.Reverse(p.Funcs) }},
		{"one function less", false, func(p *api.Program) { p.Funcs = p.Funcs[:2] }},
		{"classes in another order", false, func(p *api.Program) { slices.Reverse(p.Classes) }},
		{"one class less", false, func(p *api.Program) { p.Classes = p.Classes[:1] }},
		{"fields in another order", false, func(p *api.Program) { slices.Reverse(p.Classes[0].Fields) }},
		{"methods in another order", false, func(p *api.Program) { slices.Reverse(p.Classes[0].Methods) }},
		{"name and function of a method", false, func(p *api.Program) { p.Classes[0].Methods[0] = api.Method{Name: "sum", Func: "add"} }},
	}
}

// choices gives numbers that follow a rule.
type choices uint64

func (c *choices) below(n int) int {
	*c = *c*6364136223846793005 + 1442695040888963407
	return int(uint64(*c)>>33) % n
}

func (c *choices) name() string {
	const first, others = "abcxyzABCXYZ", "abcxyzABCXYZ0189"
	for {
		s := first[c.below(len(first)):][:1]
		for range c.below(12) {
			s += others[c.below(len(others)):][:1]
		}
		if Name(s) {
			return s
		}
	}
}

func (c *choices) names() []string {
	var out []string
	for range c.below(9) {
		out = append(out, c.name())
	}
	return out
}

// line returns a right line: one of the list, with other names and constants.
func (c *choices) line() api.Line {
	all := rightLines()
	l := all[c.below(len(all))].line
	for _, field := range []*string{&l.A, &l.B, &l.C, &l.Name} {
		if *field != "" {
			*field = c.name()
		}
	}
	if len(l.Args) > 0 {
		l.Args = c.names()
	}
	if l.Const.Kind == api.Int {
		l.Const.N = c.below(2000000) - 1000000
	}
	return l
}

func (c *choices) program() api.Program {
	var p api.Program
	for range c.below(4) {
		k := api.Class{Name: c.name(), Fields: c.names()}
		for range c.below(9) {
			k.Methods = append(k.Methods, api.Method{Name: c.name(), Func: c.name()})
		}
		p.Classes = append(p.Classes, k)
	}
	for range c.below(5) {
		f := api.Func{Name: c.name(), Params: c.names()}
		for range c.below(20) {
			f.Lines = append(f.Lines, c.line())
		}
		p.Funcs = append(p.Funcs, f)
	}
	return p
}

// P1.5: a right program is what its text says, and programs with the same text are equal.
func TestManyPrograms(t *testing.T) {
	c := choices(1)
	seen := map[string]api.Program{}
	for range 500 {
		p := c.program()
		s := Print(p)
		if s == "" && len(programText(p)) <= api.MaxText && len(p.Classes)+len(p.Funcs) > 0 {
			t.Fatalf("no text of %+v", p)
		}
		if s == "" {
			continue
		}
		q, at, e := Parse(s)
		if e != api.OK || at != 0 || !Equal(p, q) || Print(q) != s {
			t.Fatalf("Parse(%q) = %+v, %d, %v", s, q, at, e)
		}
		checkLines(t, q)
		if other, ok := seen[s]; ok && !Equal(other, p) {
			t.Errorf("%q is the text of two programs", s)
		}
		seen[s] = p
	}
	if len(seen) < 300 {
		t.Errorf("only %d programs", len(seen))
	}
}
