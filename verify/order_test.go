package verify

import (
	"strings"
	"testing"

	"facsimile/api"
)

// flaw is a change that makes one thing wrong in the instruction n, which is an addition in a try part.
type flaw struct {
	err    api.Errno
	change func(f *api.CodeFunc, n int)
}

// flaws are in the order of the chapter, and apart from each other.
func flaws() []flaw {
	return []flaw{
		{api.ErrCharge, func(f *api.CodeFunc, n int) { f.Ins[n].Lines = append(f.Ins[n].Lines, last(f.Ins[n])) }},
		{api.ErrCode, func(f *api.CodeFunc, n int) { f.Ins[n].K = integer(1) }},
		{api.ErrSlot, func(f *api.CodeFunc, n int) { f.Ins[n].C++ }},
		{api.ErrTarget, func(f *api.CodeFunc, n int) { f.Ins[n+1].Lines = []int{n} }},
		{api.ErrCatch, func(f *api.CodeFunc, n int) { f.Handlers[n/3].Slot += 7 }},
	}
}

// additions has three blocks: add (0 1), jump (2), nop (3); and so on.
const additions = "try; x = y + z; catch e; end; try; x = y + z; catch e; end; try; x = y + z; catch e; end"

// spoil makes the flaws of a set, by bits, in an instruction, and returns the first error.
func spoil(f *api.CodeFunc, n, set int) api.Errno {
	first := api.OK
	for k, w := range flaws() {
		if set>>k&1 != 0 {
			w.change(f, n)
			if first == api.OK {
				first = w.err
			}
		}
	}
	return first
}

// P10.2: of several errors in one instruction the first one of the chapter.
func TestFirstErrorOfInstruction(t *testing.T) {
	p := mainOf(t, additions)
	for _, n := range []int{0, 3, 6} {
		for set := 1; set < 1<<len(flaws()); set++ {
			c := compiled(t, p)
			e := spoil(&c.Funcs[0], n, set)
			gives(t, "several errors", p, c, api.Place{Line: n}, e)
		}
	}
}

// P10.2: of errors in several instructions that of the first one, whatever they are.
func TestFirstInstruction(t *testing.T) {
	p := mainOf(t, additions)
	for first := range flaws() {
		for later := range flaws() {
			for _, n := range [][2]int{{0, 3}, {0, 6}, {3, 6}} {
				c := compiled(t, p)
				f := &c.Funcs[0]
				spoil(f, n[1], 1<<later)
				e := spoil(f, n[0], 1<<first)
				gives(t, "two instructions", p, c, api.Place{Line: n[0]}, e)
			}
		}
	}
}

// P10.2: the errors of a function in order: Params and Slots, instructions, lines without a home.
func TestFirstErrorOfFunction(t *testing.T) {
	const lines = "return a; throw b; return a"
	missing := func(f *api.CodeFunc) { f.Ins = f.Ins[:2] }
	refuses(t, "a line without a home", lines, missing, 2, api.ErrCharge)
	refuses(t, "Params, and a line without a home", lines, func(f *api.CodeFunc) { missing(f); f.Params++ }, 0, api.ErrSlot)
	for what, wrong := range map[api.Errno]func(ins *api.Instr){
		api.ErrCharge: func(ins *api.Instr) { ins.Lines = []int{1, 1} },
		api.ErrCode:   func(ins *api.Instr) { ins.Args = []int{0} },
		api.ErrSlot:   func(ins *api.Instr) { ins.A = 0 },
	} {
		refuses(t, "an instruction, and a line without a home", lines, func(f *api.CodeFunc) { missing(f); wrong(&f.Ins[1]) }, 1, what)
		refuses(t, "Slots, an instruction, and a line without a home", lines, func(f *api.CodeFunc) { missing(f); wrong(&f.Ins[1]); f.Slots++ }, 0, api.ErrSlot)
		refuses(t, "Params and an instruction", lines, func(f *api.CodeFunc) { wrong(&f.Ins[1]); f.Params-- }, 0, api.ErrSlot)
	}
}

// P10.2: of errors in several functions that of the first one, whatever its instruction is.
func TestFirstFunction(t *testing.T) {
	type wrong struct {
		at     int
		err    api.Errno
		change func(f *api.CodeFunc)
	}
	all := []wrong{
		{0, api.ErrSlot, func(f *api.CodeFunc) { f.Params++ }},
		{0, api.ErrSlot, func(f *api.CodeFunc) { f.Slots-- }},
		{0, api.ErrCharge, func(f *api.CodeFunc) { f.Ins = nil }},
		// To the last instruction no control comes.
		{10, api.ErrCharge, func(f *api.CodeFunc) { f.Ins = f.Ins[:10] }},
	}
	for _, w := range flaws() {
		for _, n := range []int{0, 3, 6} {
			all = append(all, wrong{n, w.err, func(f *api.CodeFunc) { w.change(f, n) }})
		}
	}
	text := "\n" + strings.ReplaceAll(additions+"; return x; return x", "; ", "\n") + "\nendfunc\n"
	p := parsed(t, "func main"+text+"func f x z"+text+"func g"+text)
	gives(t, "no error", p, compiled(t, p), api.Place{}, api.OK)
	for _, first := range all {
		for _, later := range all {
			for _, funcs := range [][]int{{0, 1}, {0, 2}, {1, 2}} {
				c := compiled(t, p)
				first.change(&c.Funcs[funcs[0]])
				later.change(&c.Funcs[funcs[1]])
				gives(t, "two functions", p, c, api.Place{Fun: funcs[0], Line: first.at}, first.err)
			}
		}
	}
}
