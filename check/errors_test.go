package check

import (
	"math/rand/v2"
	"strconv"
	"strings"
	"testing"

	"facsimile/api"
)

// sample has each kind of line that names a function or a class.
const sample = "class Point x y\nmethod add sum\nmethod sum sum\nclass Empty\n" +
	"func main\np = new Point\nq = send p add p\nr = call sum p q\ns = bind sum\ns = bind sum p\ns = bind sum p q\nfinal p none\nspawn 0 sum p q\nspawn 7 none\nr = call none\nr = bind none\nendfunc\n" +
	"func sum self other\nreturn self\nendfunc\n" +
	"func none\nendfunc\n"

// P2.1: what a right program is given.
func TestSample(t *testing.T) {
	p := parsed(t, sample)
	want := api.Info{
		Slots:  [][]string{{"p", "q", "r", "s"}, {"self", "other"}, nil},
		Ends:   [][]int{{-1, -1, -1, -1, -1, -1, -1, -1, -1, -1, -1}, {-1}, nil},
		Parent: [][]int{{-1, -1, -1, -1, -1, -1, -1, -1, -1, -1, -1}, {-1}, nil},
	}
	if got := info(t, p); !sameInfo(got, want) {
		t.Errorf("Check = %v", got)
	}
}

// P2.1: slots are in the order of A, B, C and Args, the parameters first.
func TestSlotsInOrder(t *testing.T) {
	p := parsed(t, "func f z y\nA = y + c\nd[e] = z\ng = call f h A\nj.k = i\nspawn 1 f m l\nend1 = send o p q r\nendfunc\nfunc main\nendfunc\n")
	got := strings.Join(info(t, p).Slots[0], " ")
	if want := "z y A c d e g h j i m l end1 o q r"; got != want {
		t.Errorf("slots %q, want %q", got, want)
	}
}

// P2.1: main is needed, without parameters.
func TestMain(t *testing.T) {
	isWrong(t, "nothing", api.Program{}, api.Place{}, api.ErrMain)
	isWrong(t, "no main", parsed(t, "func Main\nendfunc\nfunc mainx\nendfunc\n"), api.Place{}, api.ErrMain)
	isWrong(t, "parameters", parsed(t, "func f\nendfunc\nfunc main x\nendfunc\n"), api.Place{}, api.ErrMain)
	isWrong(t, "a class", parsed(t, "class main\n"), api.Place{}, api.ErrMain)
	isRight(t, "main alone", parsed(t, "func main\nendfunc\n"))
	isRight(t, "main last", parsed(t, "func f x\nendfunc\nfunc main\nendfunc\n"))
}

// P2.1: the names of classes and functions.
func TestNamesOfClassesAndFunctions(t *testing.T) {
	for _, s := range []string{"", "if", "method", "1", "a b", "a_b", "abcdefghijklm", strings.Repeat("a", 100000)} {
		p := parsed(t, sample)
		p.Classes[1].Name = s
		isWrong(t, "class", p, inClass(1), api.ErrName)
		p = parsed(t, sample)
		p.Funcs[2].Name = s
		p.Funcs[0].Lines = nil
		isWrong(t, "function", p, api.Place{Fun: 2}, api.ErrName)
	}
	isWrong(t, "class twice", parsed(t, "class A\nclass B\nclass A\nclass B\n"), inClass(2), api.ErrName)
	isWrong(t, "function twice", parsed(t, "func main\nendfunc\nfunc f\nendfunc\nfunc main\nx = 1\nendfunc\n"), api.Place{Fun: 2}, api.ErrName)
	isRight(t, "one name for all", parsed(t, "class main main\nmethod main f\nfunc main\nmain = 1\nmain.main = main\nendfunc\nfunc f main\nendfunc\n"))
}

// P2.1: the names of fields, methods and parameters.
func TestNamesInLists(t *testing.T) {
	for _, s := range []string{"", "end", "0", "x", "abcdefghijklm"} {
		p := parsed(t, sample)
		p.Classes[0].Fields[1] = s
		isWrong(t, "field", p, inClass(0), api.ErrName)
		p = parsed(t, sample)
		p.Funcs[1].Params = []string{"x", s}
		isWrong(t, "parameter", p, api.Place{Fun: 1}, api.ErrName)
	}
	for _, s := range []string{"", "end", "0", "add", "abcdefghijklm"} {
		p := parsed(t, sample)
		p.Classes[0].Methods[1].Name = s
		isWrong(t, "method", p, inClass(0), api.ErrName)
	}
	isRight(t, "a field and a method", parsed(t, "class A x\nmethod x f\nclass B x\nmethod x f\nfunc main\nendfunc\nfunc f x\nendfunc\nfunc g x\nendfunc\n"))
}

// P2.1: the functions of methods.
func TestFunctionsOfMethods(t *testing.T) {
	const functions = "func main\nendfunc\nfunc f x\nendfunc\n"
	isRight(t, "there is one", parsed(t, "class A\nmethod m f\nmethod n f\n"+functions))
	isWrong(t, "there is none", parsed(t, "class A\nmethod m f\nmethod n g\n"+functions), inClass(0), api.ErrNone)
	isWrong(t, "without parameters", parsed(t, "class B\nclass A\nmethod m f\nmethod n main\n"+functions), inClass(1), api.ErrArity)
	isWrong(t, "none, then without parameters", parsed(t, "class A\nmethod m g\nmethod n main\n"+functions), inClass(0), api.ErrNone)
	isWrong(t, "without parameters, then none", parsed(t, "class A\nmethod m main\nmethod n g\n"+functions), inClass(0), api.ErrArity)
	isWrong(t, "the class, not the function", parsed(t, "class A\nmethod m A\n"+functions), inClass(0), api.ErrNone)
	isWrong(t, "the first one has none", parsed(t, "class A\nmethod m f\nfunc f\nendfunc\nfunc f x\nendfunc\n"), inClass(0), api.ErrArity)
	isWrong(t, "the first one has one", parsed(t, "class A\nmethod m f\nfunc f x\nendfunc\nfunc f\nendfunc\n"), api.Place{Fun: 1}, api.ErrName)
}

// P2.1: lines that are not right, or name what there is not.
func TestLines(t *testing.T) {
	for _, c := range []struct {
		line string
		err  api.Errno
	}{
		{"x = new Point", api.OK}, {"x = new point", api.ErrNone}, {"x = new main", api.ErrNone},
		{"x = call none", api.OK}, {"x = call sum a b", api.OK},
		{"x = call some", api.ErrNone}, {"x = call Point", api.ErrNone}, {"x = call some a b c", api.ErrNone},
		{"x = call none a", api.ErrArity}, {"x = call sum", api.ErrArity}, {"x = call sum a", api.ErrArity}, {"x = call sum a b c", api.ErrArity},
		{"x = bind none", api.OK}, {"x = bind sum", api.OK}, {"x = bind sum a", api.OK}, {"x = bind sum a b", api.OK},
		{"x = bind some", api.ErrNone}, {"x = bind none a", api.ErrArity}, {"x = bind sum a b c", api.ErrArity},
		{"spawn 0 none", api.OK}, {"spawn -5 sum a b", api.OK},
		{"spawn 0 some", api.ErrNone}, {"spawn 0 none a", api.ErrArity}, {"spawn 0 sum a", api.ErrArity}, {"spawn 0 sum a b c", api.ErrArity},
		{"final x none", api.OK}, {"final x main", api.OK}, {"final x some", api.ErrNone}, {"final x sum", api.ErrArity},
		// Names that are those of no function and no class here, but of fields and methods.
		{"x = send y some", api.OK}, {"x = send y sum a b c d", api.OK}, {"x = y.some", api.OK}, {"x.some = y", api.OK},
		{"x = apply y a b c d e f g h", api.OK},
	} {
		p := parsed(t, sample)
		p.Funcs[2].Lines = body(t, "yield; "+c.line+"; return x")
		if c.err == api.OK {
			isRight(t, c.line, p)
		} else {
			isWrong(t, c.line, p, api.Place{Fun: 2, Line: 1}, c.err)
		}
	}
}

// P2.1: a line with a field that it must not have, or with a wrong one, is not right, whatever else it is.
func TestFormOfLines(t *testing.T) {
	for n, l := range []api.Line{
		{}, {Op: -1}, {Op: api.OpEnd + 1}, {Op: 1 << 60},
		{Op: api.OpEnd, A: "x"}, {Op: api.OpElse, B: "x"}, {Op: api.OpCatch}, {Op: api.OpFinally, Name: "x"},
		{Op: api.OpMove, A: "x"}, {Op: api.OpMove, A: "x", B: "end"}, {Op: api.OpMove, A: "x", B: "y", C: "z"}, {Op: api.OpPrint, A: "x", Args: []string{"y"}},
		{Op: api.OpConst, A: "x"}, {Op: api.OpConst, A: "x", Const: api.Value{Kind: api.Ref}},
		{Op: api.OpCall, A: "x", Name: "if"}, {Op: api.OpCall, A: "x", Name: "some", Args: []string{""}}, {Op: api.OpCall, A: "x", Name: "some", Args: make([]string, 9)},
		{Op: api.OpSpawn, Name: "some"}, {Op: api.OpNew, A: "x"},
	} {
		p := parsed(t, sample)
		p.Funcs[1].Lines = append(p.Funcs[1].Lines, l, l)
		isWrong(t, "line "+strconv.Itoa(n), p, api.Place{Fun: 1, Line: 1}, api.ErrForm)
	}
}

// P2.1: the limits, and one beyond each.
func TestLimits(t *testing.T) {
	main := api.Func{Name: "main"}
	withClasses := func(n int) api.Program {
		p := api.Program{Funcs: []api.Func{main}}
		for _, s := range distinct(n) {
			p.Classes = append(p.Classes, api.Class{Name: s})
		}
		return p
	}
	isRight(t, "12 classes", withClasses(12))
	isWrong(t, "13 classes", withClasses(13), inClass(12), api.ErrMany)
	isWrong(t, "40 classes", withClasses(40), inClass(12), api.ErrMany)
	withFunctions := func(n int) api.Program {
		p := api.Program{Funcs: []api.Func{main}}
		for _, s := range distinct(n - 1) {
			p.Funcs = append(p.Funcs, api.Func{Name: s})
		}
		return p
	}
	isRight(t, "24 functions", withFunctions(24))
	isWrong(t, "25 functions", withFunctions(25), api.Place{Fun: 24}, api.ErrMany)
	isWrong(t, "60 functions", withFunctions(60), api.Place{Fun: 24}, api.ErrMany)
	withFields := func(n int) api.Program {
		return api.Program{Classes: []api.Class{{Name: "A"}, {Name: "B", Fields: distinct(n)}}, Funcs: []api.Func{main}}
	}
	isRight(t, "64 fields", withFields(64))
	isWrong(t, "65 fields", withFields(65), inClass(1), api.ErrMany)
	withLines := func(n int) api.Program {
		return api.Program{Funcs: []api.Func{main, {Name: "f", Lines: body(t, "yield"+strings.Repeat("; yield", n-1))}}}
	}
	isRight(t, "60 lines", withLines(60))
	isWrong(t, "61 lines", withLines(61), api.Place{Fun: 1}, api.ErrMany)
}

// P2.1: the limit of slots counts parameters and other variables, and is that of each function.
func TestLimitOfSlots(t *testing.T) {
	with := func(params, others int) api.Program {
		names := distinct(params + others)
		f := api.Func{Name: "f", Params: names[:params]}
		for _, s := range names {
			f.Lines = append(f.Lines, api.Line{Op: api.OpPrint, A: s}, api.Line{Op: api.OpInput, A: s})
		}
		return api.Program{Funcs: []api.Func{f, {Name: "main", Lines: f.Lines[:2]}}}
	}
	isRight(t, "24 variables", with(0, 24))
	isRight(t, "24 slots", with(10, 14))
	isRight(t, "24 parameters", with(24, 0))
	isWrong(t, "25 variables", with(0, 25), api.Place{Line: 50}, api.ErrMany)
	isWrong(t, "25 slots", with(10, 15), api.Place{Line: 50}, api.ErrMany)
	isWrong(t, "25 parameters", with(25, 0), api.Place{Line: 50}, api.ErrMany)
	many := api.Program{Funcs: []api.Func{{Name: "main", Params: distinct(600)}}}
	isWrong(t, "600 parameters, no lines", many, api.Place{}, api.ErrMany)
}

// P2.1: methods and parameters have no limit of their own here.
func TestManyMethodsAndArguments(t *testing.T) {
	c := api.Class{Name: "A"}
	for _, s := range distinct(600) {
		c.Methods = append(c.Methods, api.Method{Name: s, Func: "f"})
	}
	p := parsed(t, "func main\nx = bind f y\nendfunc\nfunc f x\nendfunc\n")
	p.Classes = []api.Class{c}
	p.Funcs[1].Params = distinct(20)
	isRight(t, "600 methods, 20 parameters", p)
	p.Funcs[0].Lines = append(p.Funcs[0].Lines, body(t, "x = call f a b c d e f g h")...)
	isWrong(t, "a call of 20 parameters", p, inMain(1), api.ErrArity)
	p.Classes[0].Methods[599].Name = "vaa"
	isWrong(t, "the last method", p, inClass(0), api.ErrName)
}

// ordered has room for each of the flaws below.
const ordered = "class A x y\nmethod m f\nmethod n f\nclass B\n" +
	"func f a\nyield\nyield\nyield\nyield\nyield\nyield\nyield\nyield\nendfunc\n" +
	"func g a b\nyield\nyield\nendfunc\n" +
	"func main\nendfunc\nfunc none\nendfunc\n"

// flaw is a change that makes a program wrong.
type flaw struct {
	at     api.Place
	err    api.Errno
	change func(p *api.Program)
}

// flaws returns flaws in the order in which they have to be found. No two of them change the same.
func flaws(t *testing.T) []flaw {
	wide := body(t, "a = apply b c1 c2 c3 c4 c5 c6 c7 c8; a = apply b d1 d2 d3 d4 d5 d6 d7 d8; a = apply b e1 e2 e3 e4 e5 e6 e7 e8")
	return []flaw{
		{inClass(12), api.ErrMany, func(p *api.Program) { p.Classes = append(p.Classes, make([]api.Class, 11)...) }},
		{api.Place{Fun: 24}, api.ErrMany, func(p *api.Program) { p.Funcs = append(p.Funcs, make([]api.Func, 22)...) }},
		{inClass(0), api.ErrName, func(p *api.Program) { p.Classes[0].Name = "new" }},
		{inClass(0), api.ErrMany, func(p *api.Program) { p.Classes[0].Fields = append(p.Classes[0].Fields, distinct(63)...) }},
		{inClass(0), api.ErrName, func(p *api.Program) { p.Classes[0].Fields[0] = "y" }},
		{inClass(0), api.ErrNone, func(p *api.Program) { p.Classes[0].Methods[0].Func = "some" }},
		{inClass(0), api.ErrArity, func(p *api.Program) { p.Classes[0].Methods[1].Func = "none" }},
		{inClass(1), api.ErrName, func(p *api.Program) { p.Classes[1].Name = "1" }},
		{inMain(0), api.ErrName, func(p *api.Program) { p.Funcs[0].Params[0] = "end" }},
		{inMain(0), api.ErrMany, func(p *api.Program) { p.Funcs[0].Lines = append(p.Funcs[0].Lines, make([]api.Line, 53)...) }},
		{inMain(0), api.ErrForm, func(p *api.Program) { p.Funcs[0].Lines[0].A = "x" }},
		{inMain(1), api.ErrNone, func(p *api.Program) { p.Funcs[0].Lines[1] = body(t, "x = call some a")[0] }},
		{inMain(2), api.ErrArity, func(p *api.Program) { p.Funcs[0].Lines[2] = body(t, "x = bind f a a")[0] }},
		{inMain(3), api.ErrBlock, func(p *api.Program) { p.Funcs[0].Lines[3] = body(t, "finally")[0] }},
		{inMain(8), api.ErrBlock, func(p *api.Program) { p.Funcs[0].Lines[4] = body(t, "while a")[0] }},
		{inMain(8), api.ErrMany, func(p *api.Program) { copy(p.Funcs[0].Lines[5:], wide) }},
		{api.Place{Fun: 1}, api.ErrName, func(p *api.Program) { p.Funcs[1].Name = "f" }},
		{api.Place{Fun: 1}, api.ErrForm, func(p *api.Program) { p.Funcs[1].Lines[0] = api.Line{} }},
		{api.Place{Fun: 1, Line: 1}, api.ErrBlock, func(p *api.Program) { p.Funcs[1].Lines[1] = body(t, "end")[0] }},
		{api.Place{}, api.ErrMain, func(p *api.Program) { p.Funcs[2].Params = []string{"x"} }},
	}
}

// P2.1: each flaw is found at its place, and of two flaws the first one.
func TestOrderOfErrors(t *testing.T) {
	isRight(t, "no flaw", parsed(t, ordered))
	all := flaws(t)
	for n, first := range all {
		for k, second := range all[n:] {
			p := parsed(t, ordered)
			second.change(&p)
			if k > 0 {
				first.change(&p)
			}
			isWrong(t, "flaws "+strconv.Itoa(n)+" and "+strconv.Itoa(n+k), p, first.at, first.err)
		}
	}
}

// anyLine returns a line that is hardly ever right.
func anyLine(r *rand.Rand, name func() string) api.Line {
	l := api.Line{Op: r.IntN(api.OpEnd + 2)}
	for _, field := range []*string{&l.A, &l.B, &l.C, &l.Name} {
		if r.IntN(2) == 0 {
			*field = name()
		}
	}
	for range r.IntN(3) {
		l.Args = append(l.Args, name())
	}
	l.Const = api.Value{Kind: r.IntN(8), N: r.IntN(3)}
	return l
}

// anyProgram returns a program that is hardly ever right.
func anyProgram(r *rand.Rand) api.Program {
	name := func() string { return []string{"main", "f", "A", "x", "y", "end", "", "1"}[r.IntN(8)] }
	names := func() []string {
		var list []string
		for range r.IntN(4) {
			list = append(list, name())
		}
		return list
	}
	var p api.Program
	for range r.IntN(3) {
		c := api.Class{Name: name(), Fields: names()}
		for range r.IntN(3) {
			c.Methods = append(c.Methods, api.Method{Name: name(), Func: name()})
		}
		p.Classes = append(p.Classes, c)
	}
	for range r.IntN(4) {
		f := api.Func{Name: name(), Params: names()}
		for range r.IntN(6) {
			f.Lines = append(f.Lines, anyLine(r, name))
		}
		p.Funcs = append(p.Funcs, f)
	}
	return p
}

// P1: with any program Check ends without a panic; an error has a place of the program.
func TestAnyProgram(t *testing.T) {
	for n := range 20000 {
		p := anyProgram(rand.New(rand.NewPCG(7, uint64(n))))
		i, at, e := Check(p)
		switch {
		case e == api.OK:
			if at != (api.Place{}) || len(i.Slots) != len(p.Funcs) || len(i.Ends) != len(p.Funcs) || len(i.Parent) != len(p.Funcs) {
				t.Fatalf("%v: %v, %v", p, i, at)
			}
		case len(i.Slots)+len(i.Ends)+len(i.Parent) > 0:
			t.Fatalf("%v: error %d, and %v", p, e, i)
		case at.Fun < -1 || at.Line < 0 || at.Fun == -1 && at.Line >= len(p.Classes) || at.Fun > 0 && (at.Fun >= len(p.Funcs) || at.Line > len(p.Funcs[at.Fun].Lines)):
			t.Fatalf("%v: error %d at %v", p, e, at)
		}
	}
}
