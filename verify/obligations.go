package verify

import (
	"slices"

	"facsimile/api"
	"facsimile/check"
	"facsimile/code"
)

// charges reports whether the Lines of an instruction follow each other as control goes on, all of them idle but perhaps the last one, which fits the operator.
func (f function) charges(n int) bool {
	ins := f.instruction(n)
	for k, line := range ins.Lines {
		if line < 0 || line >= len(f.table) || k > 0 && !f.follows(line, ins.Lines[k-1]) {
			return false
		}
	}
	return len(ins.Lines) > 0 && f.idle(last(ins)) == (ins.Op == api.BNop || ins.Op == api.BJump)
}

// follows reports whether control goes on at a line after another one, which is idle.
func (f function) follows(line, before int) bool { return f.idle(before) && f.next(before) == line }

// carriesOut reports whether an instruction does what its last line says, whatever its slots are.
func (f function) carriesOut(n int) bool {
	ins, row := f.instruction(n), f.row(n)
	if ins.K != row.K || len(ins.Args) != len(row.Args) {
		return false
	}
	switch row.Op {
	case api.BNop:
		return (ins.Op == api.BJump || ins.A == row.A) && ins.B == row.B && ins.C == row.C
	case api.OpSpawn:
		return ins.Op == row.Op && ins.B == row.B
	}
	return ins.Op == row.Op
}

// usesSlots reports whether the slots of an instruction are those of its last line.
func (f function) usesSlots(n int) bool {
	ins, row := f.instruction(n), f.row(n)
	return (jumps(ins.Op) || ins.A == row.A) && ins.B == row.B && ins.C == row.C && slices.Equal(ins.Args, row.Args)
}

// goesOn reports whether control goes on from an instruction at instructions that begin where it goes on from the last line.
func (f function) goesOn(n int) bool {
	ins := f.instruction(n)
	line := last(ins)
	switch ins.Op {
	case api.OpThrow, api.OpReturn:
		return true
	case api.BJump:
		return f.begins(ins.A) == f.next(line)
	case api.BFalse:
		return f.begins(n+1) == f.next(line) && f.begins(ins.A) == f.skip(line)
	}
	return f.begins(n+1) == f.next(line)
}

// route says where an exception or a return goes: to a line, with a slot for the exception, or as a pending completion; or nowhere, if it leaves the function.
type route struct {
	line, slot  int
	finally, ok bool
}

// catches reports whether exceptions and returns from an instruction go where those from its last line go.
func (f function) catches(n int) bool {
	at := f.place(last(f.instruction(n)))
	op := f.program.Funcs[at.Fun].Lines[at.Line].Op
	// What is pending goes on at the end of a finally part, an exception and a return.
	completes := f.row(n).Op == api.BLeave
	if completes || check.Throws(op) {
		line, slot, finally, ok := check.Catch(f.program, f.info, at)
		if f.handled(n, false) != (route{line, slot, finally, ok}) {
			return false
		}
	}
	if completes || op == api.OpReturn {
		line, ok := check.Finally(f.program, f.info, at)
		return f.handled(n, true) == route{line, none, ok, ok}
	}
	return true
}

// handled returns where the handlers of the code lead from an instruction.
func (f function) handled(n int, returns bool) route {
	h, ok := code.Catch(f.code, f.number, n, returns)
	if !ok {
		return route{line: none, slot: none}
	}
	return route{f.begins(h.Target), h.Slot, h.Finally, true}
}
