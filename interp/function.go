package interp

import (
	"facsimile/api"
	"facsimile/code"
	"facsimile/live"
	"facsimile/verify"
)

// position is where control is in a function: at the line with the index k in the Lines of the instruction pc. The end of the function is at the number of all instructions.
type position struct{ pc, k int }

// function is a function of a code, with what is known of it.
type function struct {
	api.CodeFunc
	number         int
	homes          []position // of its lines, and of its end
	reached        []bool     // which instructions are reached from the first one
	before, across [][]bool   // which slots are live at each line
	finals         []int      // how many finally parts contain each line
}

func newFunction(p api.Program, i api.Info, c api.Code, number int) *function {
	f := &function{
		CodeFunc: c.Funcs[number],
		number:   number,
		reached:  verify.Reached(c, number),
		before:   live.Before(p, i, number),
		across:   live.Across(p, i, number),
	}
	lines := p.Funcs[number].Lines
	for line, parent := range i.Parent[number] {
		pc, k, _ := code.Pc(c, api.Place{Fun: number, Line: line})
		f.homes = append(f.homes, position{pc, k})
		finals := 0
		if parent != none {
			finals = f.finals[parent]
			if lines[parent].Op == api.OpFinally {
				finals++
			}
		}
		f.finals = append(f.finals, finals)
	}
	f.homes = append(f.homes, position{pc: len(f.Ins)})
	return f
}

// lines returns how many lines the function has.
func (f *function) lines() int { return len(f.finals) }

// line returns the line at a position.
func (f *function) line(at position) int {
	if at.pc == len(f.Ins) {
		return f.lines()
	}
	return f.Ins[at.pc].Lines[at.k]
}

// start returns where control goes on that comes to an instruction.
func (f *function) start(pc int) position {
	if pc == len(f.Ins) || f.reached[pc] {
		return position{pc: pc}
	}
	// verify.Check may have looked at nothing of this instruction but its first line. The home of this line was looked at.
	return f.homes[f.Ins[pc].Lines[0]]
}

// after returns where control goes on when a line has completed that does not jump.
func (f *function) after(at position) position {
	if at.k+1 < len(f.Ins[at.pc].Lines) {
		return position{at.pc, at.k + 1}
	}
	return f.start(at.pc + 1)
}
