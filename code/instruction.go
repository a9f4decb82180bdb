package code

import (
	"slices"

	"facsimile/api"
	"facsimile/check"
)

// of returns the number of the instruction whose Lines begin with a line, and for the end of the function that of all instructions.
func (f function) of(line int) int {
	if line == len(f.lines()) {
		return len(f.rows)
	}
	return slices.IndexFunc(f.rows, func(row []int) bool { return row[0] == line })
}

// instruction returns the instruction with these Lines, which does what the last one with its home there says.
func (f function) instruction(lines []int) api.Instr {
	line := lastHome(lines)
	ins := api.Instr{Op: api.BNop, A: none, B: none, C: none}
	switch {
	case f.jumps(line):
		ins.Op, ins.A = api.BJump, f.of(f.goal(line))
	case !f.idle(line):
		ins = f.active(line)
	}
	ins.Lines = lines
	return ins
}

// active returns the instruction that carries out an active line, without its Lines.
func (f function) active(line int) api.Instr {
	l := f.lines()[line]
	// A right line has no A, B, C and Args but those that its instruction has.
	ins := api.Instr{Op: l.Op, A: f.slot(l.A), B: f.slot(l.B), C: f.slot(l.C), Args: each(l.Args, f.slot), K: f.constant(l)}
	switch l.Op {
	case api.OpSpawn:
		ins.B = l.Const.N
	case api.OpIf, api.OpWhile:
		ins.Op, ins.A, ins.B = api.BFalse, f.of(f.skip(line)), ins.A
	case api.OpFinally:
		ins.Op = api.BEnter
	case api.OpEnd:
		ins.Op = api.BLeave
	}
	return ins
}

// constant returns the constant of the instruction of an active line.
func (f function) constant(l api.Line) api.Value {
	switch l.Op {
	case api.OpConst:
		return l.Const
	case api.OpNew:
		return api.Value{Kind: api.Int, N: check.Class(f.program, l.Name)}
	case api.OpGet, api.OpSet, api.OpSend:
		return api.Value{Kind: api.Str, S: l.Name}
	case api.OpCall, api.OpBind, api.OpFinal, api.OpSpawn:
		return api.Value{Kind: api.Fun, N: check.Func(f.program, l.Name)}
	}
	return api.Value{}
}
