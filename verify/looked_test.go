package verify

import (
	"math"
	"slices"
	"testing"

	"facsimile/api"
)

// P10.2, P10.3: instructions that are neither reached nor the first home of a line do not matter, whatever is in them.
func TestInstructionsThatAreNotLookedAt(t *testing.T) {
	// return (0), yield (1), return (2)
	const lines = "return a; yield; return a"
	for _, j := range []api.Instr{
		{}, junk(), junk(-1), junk(3), junk(77), junk(math.MinInt), junk(math.MaxInt),
		junk(0), junk(7, 1), junk(0, 2), junk(0, 0, 1), jump(0), jump(1, 9), jump(-5, 77), instr(api.BLeave), instr(api.OpEnd, 0),
	} {
		accepts(t, "behind the first one", lines, func(f *api.CodeFunc) { insert(f, 1, j) })
		accepts(t, "at the end", lines, func(f *api.CodeFunc) { f.Ins = append(f.Ins, j, j) })
		accepts(t, "with handlers", lines, func(f *api.CodeFunc) {
			f.Ins = append(f.Ins, j)
			f.Handlers = []api.Handler{{From: 3, To: 4, Target: 3}, {From: 3, To: 99, Target: -1, Slot: 9, Finally: true}, {From: 4, To: 3}}
		})
	}
	// Second homes of lines.
	for _, j := range []api.Instr{junk(1), junk(1, 2), junk(2), junk(2, 3), junk(0, 1, 2)} {
		accepts(t, "second homes", lines, func(f *api.CodeFunc) { f.Ins = append(f.Ins, j) })
	}
}

// P10.2: instructions that are the first home of a line are looked at, though they are not reached.
func TestFirstHomesAreLookedAt(t *testing.T) {
	const lines = "return a; yield; return a"
	for _, j := range []api.Instr{junk(1), junk(1, 2), junk(0, 1), junk(1, 7)} {
		e := api.ErrCode
		if len(j.Lines) > 1 {
			e = api.ErrCharge
		}
		refuses(t, "before the home that the line had", lines, func(f *api.CodeFunc) { insert(f, 1, j) }, 1, e)
	}
	refuses(t, "a home in the middle", "return a; if b; end; return a", func(f *api.CodeFunc) { f.Ins[2].B = 7 }, 2, api.ErrCode)
	refuses(t, "the last home", lines, func(f *api.CodeFunc) { f.Ins[2].C = 7 }, 2, api.ErrSlot)
	refuses(t, "where it goes", lines, func(f *api.CodeFunc) { f.Ins = slices.Insert(f.Ins, 2, junk(7)) }, 1, api.ErrTarget)
	refuses(t, "its handlers", "return a; print a; return a", func(f *api.CodeFunc) {
		f.Handlers = []api.Handler{{From: 1, To: 2, Target: 0}}
	}, 1, api.ErrCatch)
	// A home behind another line of the same instruction.
	refuses(t, "a home that is not the first line", "return a; try; try; yield; catch e; end; catch e; end", func(f *api.CodeFunc) {
		f.Ins[1].A = 0
	}, 1, api.ErrSlot)
}

// P10.2: instructions that are reached are looked at, though they are no first home.
func TestReachedInstructionsAreLookedAt(t *testing.T) {
	// The loop is there twice; control goes from the second one back to the first.
	double := func(f *api.CodeFunc) {
		// false (0), yield (1), jump (2): the second ones are 3 to 5.
		f.Ins = append(f.Ins, f.Ins...)
		f.Ins[0].A, f.Ins[3].A = 6, 6
		f.Ins[2].A, f.Ins[5].A = 3, 0
	}
	const lines = "while a; yield; end"
	accepts(t, "twice", lines, double)
	for n, wrong := range map[int]func(ins *api.Instr){
		3: func(ins *api.Instr) { ins.B = 1 },
		4: func(ins *api.Instr) { ins.A = 1 },
		5: func(ins *api.Instr) { ins.A = 1 },
	} {
		e := api.ErrSlot
		if n == 5 {
			e = api.ErrTarget
		}
		refuses(t, "in the second one", lines, func(f *api.CodeFunc) { double(f); wrong(&f.Ins[n]) }, n, e)
		accepts(t, "in a second one that is not reached", lines, func(f *api.CodeFunc) {
			double(f)
			f.Ins[2].A = 0
			wrong(&f.Ins[n])
		})
	}
}

// P10.2: what an instruction that is not looked at leads to is not looked at for this reason.
func TestInstructionsBehindThoseThatAreNotReached(t *testing.T) {
	// return (0), return (2), yield (1), and something that begins with the line 2, as the yield asks for.
	accepts(t, "behind a first home", "return a; yield; return a", func(f *api.CodeFunc) {
		f.Ins[1], f.Ins[2] = f.Ins[2], f.Ins[1]
		f.Ins = append(f.Ins, junk(2))
	})
	accepts(t, "behind something", "return a", func(f *api.CodeFunc) { f.Ins = append(f.Ins, jump(2), junk(0)) })
}

// P10.2: other codes than that of code.Compile that carry out the program.
func TestOtherCodes(t *testing.T) {
	accepts(t, "a BNop for each idle line", "try; try; yield; catch e; end; catch e; end", func(f *api.CodeFunc) {
		insert(f, 0, instr(api.BNop, 0))
		insert(f, 1, instr(api.BNop, 1))
		f.Ins[2].Lines = []int{2}
	})
	accepts(t, "a BJump for a BNop", "if a; yield; end; yield", func(f *api.CodeFunc) { f.Ins[2] = jump(3, f.Ins[2].Lines...) })
	accepts(t, "a BJump for the last BNop", "if a; yield; end", func(f *api.CodeFunc) { f.Ins[2] = jump(3, f.Ins[2].Lines...) })
	accepts(t, "a BNop for a BJump, and the other way round", "try; yield; catch e; end; return a", func(f *api.CodeFunc) {
		// yield (0 1), jump (2), nop (3), return (4)
		f.Ins = []api.Instr{f.Ins[0], instr(api.BNop, 2), f.Ins[3], jump(2, 3)}
		f.Handlers = nil
	})
	accepts(t, "a jump that ends earlier", "while b; if a; yield; else; yield; end; end", func(f *api.CodeFunc) {
		// false (0), false (1), yield (2), jump (3), yield (4), nop (5), jump (6)
		f.Ins[5] = instr(api.BNop, 5)
		f.Ins = append(f.Ins, jump(0, 6))
		f.Ins[0].A, f.Ins[3] = 7, jump(6, 3)
	})
	accepts(t, "instructions in another order", "if a; return a; else; return b; end; return c", func(f *api.CodeFunc) {
		// false (0), return (1), jump (2), return (3), nop (4), return (5)
		renumber(f, func(n int) int { return map[int]int{0: 0, 1: 1, 2: 4, 3: 5, 4: 2, 5: 3}[n] })
		f.Ins[2], f.Ins[3], f.Ins[4], f.Ins[5] = f.Ins[4], f.Ins[5], f.Ins[2], f.Ins[3]
	})
	accepts(t, "a round of a loop in front of it", "while a; yield; end", func(f *api.CodeFunc) {
		f.Ins = append(slices.Clone(f.Ins[:2]), jump(3, 2), f.Ins[0], f.Ins[1], jump(3, 2))
		f.Ins[0].A, f.Ins[3].A = 6, 6
	})
	accepts(t, "the first line is not in the first instruction", "return a; return b", func(f *api.CodeFunc) { slices.Reverse(f.Ins) })
}

// R5: codes far beyond all limits.
func TestLargeCodes(t *testing.T) {
	const many = 60000
	const lines = "while a; end"
	// A loop with very many rounds in front of it.
	long := func(f *api.CodeFunc) {
		round := f.Ins[0]
		round.A = 2 * many
		f.Ins = nil
		for n := range many {
			f.Ins = append(f.Ins, round, jump((2*n+2)%(2*many), 1))
		}
	}
	accepts(t, "long", lines, long)
	refuses(t, "long, and wrong at the end", lines, func(f *api.CodeFunc) { long(f); f.Ins[2*many-2].C = 0 }, 2*many-2, api.ErrSlot)
	accepts(t, "much that does not matter", "return a", func(f *api.CodeFunc) {
		f.Ins = append(f.Ins, make([]api.Instr, many)...)
		f.Handlers = slices.Repeat([]api.Handler{{From: 1, To: many, Target: 3}}, many)
	})
	refuses(t, "many Lines", lines, linesOf(0, make([]int, many)...), 0, api.ErrCharge)
	refuses(t, "many arguments", lines, func(f *api.CodeFunc) { f.Ins[0].Args = make([]int, many) }, 0, api.ErrCode)
}
