package verify

import (
	"math"
	"slices"
	"testing"

	"facsimile/api"
)

// P10.2 (ErrTarget): the instruction behind one does not begin where control goes on; the first one, one in the middle, the last one.
func TestNextInstruction(t *testing.T) {
	for _, line := range []string{"x = y", "yield", "print x", "x = call g", "try; finally; end"} {
		lines := line + "; return x; " + line + "; return x; " + line
		size := len(compiled(t, mainOf(t, line)).Funcs[0].Ins)
		for turn := range 3 {
			n := turn*(size+1) + size - 1
			refuses(t, "another one", lines, func(f *api.CodeFunc) { f.Ins = slices.Insert(f.Ins, n+1, f.Ins[0]) }, n, api.ErrTarget)
			refuses(t, "itself again", lines, func(f *api.CodeFunc) { f.Ins = slices.Insert(f.Ins, n+1, f.Ins[n]) }, n, api.ErrTarget)
			refuses(t, "one without Lines", lines, func(f *api.CodeFunc) { f.Ins = slices.Insert(f.Ins, n+1, junk()) }, n, api.ErrTarget)
			refuses(t, "one beyond the function", lines, func(f *api.CodeFunc) { f.Ins = slices.Insert(f.Ins, n+1, junk(77)) }, n, api.ErrTarget)
			if turn < 2 {
				refuses(t, "the end", lines, func(f *api.CodeFunc) { f.Ins = f.Ins[:n+1] }, n, api.ErrTarget)
			}
		}
	}
}

// P10.2 (ErrTarget): an instruction that has the line where control goes on, but does not begin with it, or has it not as its first one.
func TestNextLineWithinInstruction(t *testing.T) {
	refuses(t, "it begins later", "yield; try; try; yield; catch a; end; catch a; end", func(f *api.CodeFunc) { f.Ins[1].Lines = []int{2, 3} }, 0, api.ErrTarget)
	refuses(t, "it begins earlier", "yield; try; try; yield; catch a; end; catch a; end", func(f *api.CodeFunc) { f.Ins[1].Lines = []int{0, 1, 2, 3} }, 0, api.ErrTarget)
	accepts(t, "it begins there", "yield; try; try; yield; catch a; end; catch a; end", func(f *api.CodeFunc) {
		insert(f, 1, instr(api.BNop, 1))
		f.Ins[2].Lines = []int{2, 3}
	})
}

// farAway returns numbers of no instruction in a function with this number of instructions.
func farAway(size int) []int {
	return []int{-1, -2, size + 1, size + 2, math.MinInt, math.MaxInt}
}

// P10.2 (ErrTarget): the target of a BJump.
func TestJumps(t *testing.T) {
	// false (0), false (1), yield (2), jump (3 6), yield (4), jump (5 6); three times
	const block = "while b; if a; yield; else; yield; end; end"
	const lines = block + "; " + block + "; " + block
	f := compiled(t, mainOf(t, lines)).Funcs[0]
	for n, ins := range f.Ins {
		if ins.Op != api.BJump {
			continue
		}
		for _, to := range farAway(len(f.Ins)) {
			refuses(t, "far away", lines, func(f *api.CodeFunc) { f.Ins[n].A = to }, n, api.ErrTarget)
		}
		for to := range len(f.Ins) + 1 {
			if to != ins.A {
				refuses(t, "elsewhere", lines, func(f *api.CodeFunc) { f.Ins[n].A = to }, n, api.ErrTarget)
			}
		}
		// It is right only for Lines that end there.
		refuses(t, "an idle line less", lines, func(f *api.CodeFunc) { f.Ins[n].Lines = ins.Lines[:1] }, n, api.ErrTarget)
	}
	// What is behind a BJump does not matter to it.
	accepts(t, "something behind it", "while a; yield; end", func(f *api.CodeFunc) {
		f.Ins = append(f.Ins, junk(), jump(7, 7))
		f.Ins[0].A = 5
	})
}

// P10.2 (ErrTarget): both ways on from a BFalse.
func TestConditions(t *testing.T) {
	const lines = "if a; yield; end; while b; yield; end; if a; yield; else; yield; end"
	f := compiled(t, mainOf(t, lines)).Funcs[0]
	for n, ins := range f.Ins {
		if ins.Op != api.BFalse {
			continue
		}
		for _, to := range farAway(len(f.Ins)) {
			refuses(t, "far away", lines, func(f *api.CodeFunc) { f.Ins[n].A = to }, n, api.ErrTarget)
		}
		for to := range len(f.Ins) + 1 {
			if to != ins.A {
				refuses(t, "elsewhere", lines, func(f *api.CodeFunc) { f.Ins[n].A = to }, n, api.ErrTarget)
			}
		}
		for _, other := range []api.Instr{junk(), junk(77), f.Ins[n], f.Ins[ins.A]} {
			refuses(t, "with a true condition", lines, func(f *api.CodeFunc) { insert(f, n+1, other) }, n, api.ErrTarget)
		}
	}
	refuses(t, "the end for a true condition", "while a; end", func(f *api.CodeFunc) { f.Ins = f.Ins[:1] }, 0, api.ErrTarget)
	refuses(t, "the end for a false condition", "if a; end; yield", func(f *api.CodeFunc) { f.Ins[0].A = 3 }, 0, api.ErrTarget)
	accepts(t, "the end for a false condition", "yield; while a; end", func(f *api.CodeFunc) { f.Ins[1].A = 3 })
}

// P10.2 (ErrTarget): the end of the function is the number of its lines, whatever Lines there are.
func TestEndIsThatOfTheProgram(t *testing.T) {
	// false (0), return (1), nop (2), yield (3): the junk is behind the return.
	const lines = "if a; return a; end; yield"
	for _, line := range []int{0, 4, 5, 77, math.MaxInt} {
		accepts(t, "a line beyond", lines, func(f *api.CodeFunc) {
			insert(f, 2, junk(line))
		})
	}
	accepts(t, "a jump to the end", "while a; return a; end; if a; else; end", func(f *api.CodeFunc) {
		// false (0), return (1), jump (2), false (3), jump (4), nop (5)
		insert(f, 2, junk(60))
	})
}

// P10.2: a throw and a return need no instruction behind them.
func TestNothingBehindThrowAndReturn(t *testing.T) {
	for _, line := range []string{"throw a", "return a"} {
		lines := line + "; " + line
		accepts(t, "other lines", lines, func(f *api.CodeFunc) { slices.Reverse(f.Ins) })
		for _, j := range []api.Instr{junk(), junk(0), junk(-1), junk(77), {}} {
			accepts(t, "something behind the first one", lines, func(f *api.CodeFunc) { f.Ins = slices.Insert(f.Ins, 1, j) })
			accepts(t, "something behind the last one", lines, func(f *api.CodeFunc) { f.Ins = append(f.Ins, j) })
		}
	}
}
