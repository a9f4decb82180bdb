package verify

import (
	"math"
	"slices"
	"strconv"
	"testing"

	"facsimile/api"
)

// apart has an instruction for each line; control does not come to the instructions 2 and 4 from those before them.
const apart = "yield; return a; x = y; return a; x = y"

// reach returns a change after which an instruction is reached from the first one, by a handler that no exception takes, and another change.
func reach(n int, change func(f *api.CodeFunc)) func(f *api.CodeFunc) {
	return func(f *api.CodeFunc) {
		f.Handlers = append(f.Handlers, api.Handler{From: 0, To: 1, Target: n})
		change(f)
	}
}

// P10.2 (ErrCharge): instructions without Lines: the first one, one in the middle, and the last one.
func TestNoLines(t *testing.T) {
	accepts(t, "nothing", apart, unchanged)
	for _, n := range []int{0, 2, 4} {
		accepts(t, "a handler", apart, reach(n, unchanged))
		refuses(t, "no Lines", apart, reach(n, linesOf(n)), n, api.ErrCharge)
		refuses(t, "empty Lines", apart, reach(n, func(f *api.CodeFunc) { f.Ins[n].Lines = []int{} }), n, api.ErrCharge)
		refuses(t, "no Lines, and nothing else", apart, reach(n, func(f *api.CodeFunc) { f.Ins[n] = api.Instr{} }), n, api.ErrCharge)
	}
	refuses(t, "no lines at all", "", func(f *api.CodeFunc) { f.Ins = []api.Instr{instr(api.BNop)} }, 0, api.ErrCharge)
}

// P10.2 (ErrCharge): a line that is no line of the function, alone, before and behind others.
func TestNoLineOfTheFunction(t *testing.T) {
	for _, line := range []int{-1, 5, 6, math.MinInt, math.MaxInt} {
		for _, n := range []int{0, 2, 4} {
			for _, lines := range [][]int{{line}, {line, n}, {n, line}, {n, line, n}} {
				refuses(t, "no line", apart, reach(n, linesOf(n, lines...)), n, api.ErrCharge)
			}
		}
	}
	refuses(t, "a line of no lines", "", func(f *api.CodeFunc) { f.Ins = []api.Instr{instr(api.BNop, 0)} }, 0, api.ErrCharge)
	for _, op := range []int{api.BNop, api.BJump} {
		refuses(t, "the end", "if a; yield; end", func(f *api.CodeFunc) { f.Ins[2].Op, f.Ins[2].Lines = op, []int{2, 3} }, 2, api.ErrCharge)
	}
}

// P10.2 (ErrCharge): active lines before the last one, though control goes on from one to the next.
func TestActiveLinesBeforeTheLast(t *testing.T) {
	lines := "yield; yield; yield; yield; x = y; yield"
	for n := range 5 {
		refuses(t, "two lines", lines, func(f *api.CodeFunc) {
			f.Ins[n+1].Lines = []int{n, n + 1}
			f.Ins = slices.Delete(f.Ins, n, n+1)
		}, n, api.ErrCharge)
	}
	refuses(t, "all lines", lines, func(f *api.CodeFunc) { f.Ins, f.Ins[0].Lines = f.Ins[:1], []int{0, 1, 2, 3, 4, 5} }, 0, api.ErrCharge)
	refuses(t, "a while", "while a; end", func(f *api.CodeFunc) { f.Ins[1].Lines = []int{1, 0, 1} }, 1, api.ErrCharge)
	refuses(t, "between idle lines", "try; yield; try; yield; catch a; end; catch a; end", func(f *api.CodeFunc) {
		f.Ins[1].Lines = []int{0, 1, 2, 3}
		f.Ins = f.Ins[1:]
	}, 0, api.ErrCharge)
	refuses(t, "a finally", "try; finally; yield; end", func(f *api.CodeFunc) { f.Ins[0].Op, f.Ins[0].Lines = api.OpYield, []int{0, 1, 2} }, 0, api.ErrCharge)
}

// P10.2 (ErrCharge): lines that control does not go through one after the other, though they are idle.
func TestLinesThatDoNotFollow(t *testing.T) {
	// yield (0), return (1), yield (2 3 4), jump (5 7), jump (6 7), nop (8), return (9), yield (10 11 12), jump (13 15), jump (14 15), nop (16)
	lines := "yield; return a; try; try; yield; catch e; end; catch e; end; return a; try; try; yield; catch e; end; catch e; end"
	accepts(t, "nothing", lines, unchanged)
	for n, wrong := range map[int][][]int{
		2:  {{2, 4}, {3, 2, 4}, {2, 2, 3, 4}, {2, 3, 3, 4}, {2, 3, 4, 4}, {4, 3, 2}, {2, 3, 4, 5}, {3, 2, 3, 4}, {2, 3, 4, 2, 3, 4}},
		3:  {{5, 6}, {5, 6, 7}, {5, 7, 8}, {5, 5}, {5, 7, 7}, {5, 4}, {5, 8}, {5, 7, 9}},
		4:  {{6, 8}, {6, 5}, {6, 6}, {6, 7, 8}, {7, 6}, {7, 8}, {8, 7}},
		7:  {{10, 12}, {11, 10, 12}, {10, 10, 11, 12}, {10, 11, 12, 13}, {12, 11}},
		10: {{16, 16}, {16, 0}, {15, 16}, {14, 16}, {16, 15}, {16, 17}},
	} {
		for _, w := range wrong {
			refuses(t, "Lines of "+strconv.Itoa(n), lines, reach(n, linesOf(n, w...)), n, api.ErrCharge)
		}
	}
	refuses(t, "the first one", "try; try; yield; catch e; end; catch e; end", linesOf(0, 0, 2), 0, api.ErrCharge)
	refuses(t, "beside an if", "if a; yield; else; yield; end; yield", linesOf(2, 2, 3), 2, api.ErrCharge)
	refuses(t, "from the end of a while", "while a; if a; end; end", linesOf(2, 2, 3, 1), 2, api.ErrCharge)
}

// P10.2 (ErrCharge): BNop and BJump behind an active last line.
func TestIdleOperators(t *testing.T) {
	for _, lines := range []string{
		"yield; yield; yield", "if a; yield; end", "while a; yield; end", "try; yield; finally; yield; end", "try; yield; catch a; throw a; end; return a",
	} {
		for n, ins := range compiled(t, mainOf(t, lines)).Funcs[0].Ins {
			if ins.Op == api.BNop || ins.Op == api.BJump {
				continue
			}
			for _, op := range []int{api.BNop, api.BJump} {
				refuses(t, "behind an active line", lines, func(f *api.CodeFunc) { f.Ins[n].Op = op }, n, api.ErrCharge)
				refuses(t, "behind an active line", lines, func(f *api.CodeFunc) {
					f.Ins[n] = instr(op, f.Ins[n].Lines...)
					f.Ins[n].A = n + 1
				}, n, api.ErrCharge)
			}
		}
	}
}

// P10.2 (ErrCharge): other operators behind an idle last line.
func TestActiveOperators(t *testing.T) {
	// nop (0), enter (1), leave (2), false (3), false (4), jump (5 7), nop (6), jump (7), nop (8)
	lines := "try; finally; end; while b; if a; else; end; end; try; catch a; end"
	for n, ins := range compiled(t, mainOf(t, lines)).Funcs[0].Ins {
		if ins.Op != api.BNop && ins.Op != api.BJump {
			continue
		}
		for op := -2; op < 120; op++ {
			if op != api.BNop && op != api.BJump {
				refuses(t, "behind an idle line", lines, func(f *api.CodeFunc) { f.Ins[n].Op = op }, n, api.ErrCharge)
			}
		}
	}
	// An instruction that ends too early, and is that of the line that comes next.
	refuses(t, "too early", "try; yield; catch a; end", linesOf(0, 0), 0, api.ErrCharge)
	refuses(t, "too early", "yield; try; try; yield; catch a; end; catch a; end", linesOf(1, 1, 2), 1, api.ErrCharge)
}

// P10.2 (ErrCharge at the end): lines without a home, while all instructions that are looked at are right.
func TestLinesWithoutHome(t *testing.T) {
	without := func(n int) func(f *api.CodeFunc) {
		return func(f *api.CodeFunc) {
			renumber(f, func(m int) int {
				if m > n {
					m--
				}
				return m
			})
			f.Ins = slices.Delete(f.Ins, n, n+1)
		}
	}
	refuses(t, "no instructions", "yield", func(f *api.CodeFunc) { f.Ins = nil }, 0, api.ErrCharge)
	refuses(t, "no instructions", "return a; yield; while a; end", func(f *api.CodeFunc) { *f = api.CodeFunc{Slots: 1} }, 0, api.ErrCharge)
	refuses(t, "none of the first one", "return a; return a; return a", without(0), 2, api.ErrCharge)
	refuses(t, "none of one in the middle", "return a; return a; return a", without(1), 2, api.ErrCharge)
	// The end of what the code has is this line: that it is the end there does not count.
	refuses(t, "none of the last one", "return a; return a; return a", without(2), 2, api.ErrCharge)
	refuses(t, "none of several", "return a; yield; return a; yield; return a; yield", func(f *api.CodeFunc) { f.Ins = f.Ins[:1] }, 1, api.ErrCharge)
	// false (0), false (1), yield (2), jump (3 6), return (4), jump (5 6): where the line 6 stands behind the line 3, it has no home.
	lines := "while b; if a; yield; else; return a; end; end"
	accepts(t, "nothing", lines, unchanged)
	refuses(t, "a line that stands in other Lines", lines, without(5), 5, api.ErrCharge)
	refuses(t, "a line in Lines that do not matter", "return a; yield; return a", func(f *api.CodeFunc) {
		f.Ins[1] = instr(api.BNop, 7, 1)
	}, 3, api.ErrCharge)
}
