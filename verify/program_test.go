package verify

import (
	"slices"
	"strings"
	"testing"

	"facsimile/api"
	"facsimile/check"
	"facsimile/code"
	"facsimile/lang"
)

// parsed returns the program with this text.
func parsed(t *testing.T, text string) api.Program {
	t.Helper()
	p, at, e := lang.Parse(text)
	if e != api.OK {
		t.Fatalf("the test has a wrong text: error %d at %d of %q", e, at, text)
	}
	return p
}

// info returns the Info of a program that is right.
func info(t *testing.T, p api.Program) api.Info {
	t.Helper()
	i, at, e := check.Check(p)
	if e != api.OK {
		t.Fatalf("the test has a wrong program: error %d at %v of %q", e, at, lang.Print(p))
	}
	return i
}

// compiled returns the code of a program that is right.
func compiled(t *testing.T, p api.Program) api.Code {
	t.Helper()
	c, e := code.Compile(p, info(t, p))
	if e != api.OK {
		t.Fatalf("Compile: error %d of %q", e, lang.Print(p))
	}
	return c
}

// cloned returns a copy of a code whose functions can be changed.
func cloned(c api.Code) api.Code {
	c.Funcs = slices.Clone(c.Funcs)
	for n := range c.Funcs {
		f := &c.Funcs[n]
		f.Ins, f.Handlers = slices.Clone(f.Ins), slices.Clone(f.Handlers)
		for k := range f.Ins {
			f.Ins[k].Args, f.Ins[k].Lines = slices.Clone(f.Ins[k].Args), slices.Clone(f.Ins[k].Lines)
		}
	}
	return c
}

// mainOf returns the program whose function 0 is main with these lines, which have "; " between them. It has the classes 0 P and 1 Q, and the functions 1 g and 2 h, with none and two parameters.
func mainOf(t *testing.T, lines string) api.Program {
	t.Helper()
	text := "class P f\nclass Q\nfunc main\n"
	if lines != "" {
		text += strings.ReplaceAll(lines, "; ", "\n") + "\n"
	}
	return parsed(t, text+"endfunc\nfunc g\nendfunc\nfunc h x y\nendfunc\n")
}

// gives checks what Check returns for a program with its own Info.
func gives(t *testing.T, what string, p api.Program, c api.Code, at api.Place, e api.Errno) {
	t.Helper()
	gotAt, got := Check(p, info(t, p), c)
	if gotAt != at || got != e {
		t.Errorf("%s: error %d at %v, want %d at %v", what, got, gotAt, e, at)
	}
}

// accepts checks that Check accepts the code of main with these lines, after a change.
func accepts(t *testing.T, what, lines string, change func(f *api.CodeFunc)) {
	t.Helper()
	p := mainOf(t, lines)
	c := compiled(t, p)
	change(&c.Funcs[0])
	gives(t, what+" in "+lines, p, c, api.Place{}, api.OK)
}

// refuses checks that Check finds an error in an instruction of the code of main with these lines, after a change.
func refuses(t *testing.T, what, lines string, change func(f *api.CodeFunc), n int, e api.Errno) {
	t.Helper()
	p := mainOf(t, lines)
	c := compiled(t, p)
	change(&c.Funcs[0])
	gives(t, what+" in "+lines, p, c, api.Place{Line: n}, e)
}

// unchanged leaves a function as it is.
func unchanged(*api.CodeFunc) {}

// linesOf returns a change after which the Lines of an instruction are these.
func linesOf(n int, lines ...int) func(f *api.CodeFunc) {
	return func(f *api.CodeFunc) { f.Ins[n].Lines = lines }
}

// insert puts an instruction before the instruction n. Whatever led to n leads to the new one; no handler begins or ends between the two.
func insert(f *api.CodeFunc, n int, ins api.Instr) {
	renumber(f, func(m int) int {
		if m > n {
			m++
		}
		return m
	})
	f.Ins = slices.Insert(f.Ins, n, ins)
}

// renumber changes all numbers of instructions that lead somewhere.
func renumber(f *api.CodeFunc, to func(int) int) {
	for n := range f.Ins {
		if jumps(f.Ins[n].Op) {
			f.Ins[n].A = to(f.Ins[n].A)
		}
	}
	for n := range f.Handlers {
		h := &f.Handlers[n]
		h.From, h.To, h.Target = to(h.From), to(h.To), to(h.Target)
	}
}

// instr returns an instruction without slots, arguments and a constant.
func instr(op int, lines ...int) api.Instr {
	return api.Instr{Op: op, A: -1, B: -1, C: -1, Lines: lines}
}

// jump returns a BJump.
func jump(to int, lines ...int) api.Instr {
	ins := instr(api.BJump, lines...)
	ins.A = to
	return ins
}

// junk returns an instruction that is that of no line.
func junk(lines ...int) api.Instr {
	return api.Instr{Op: -7, A: 99, B: -99, C: 1 << 62, Args: []int{5, -5}, K: api.Value{Kind: 77, N: 7, S: "junk"}, Lines: lines}
}

func integer(n int) api.Value { return api.Value{Kind: api.Int, N: n} }
