package verify

import (
	"slices"

	"facsimile/api"
	"facsimile/check"
	"facsimile/code"
)

// function is a function of a program, which the function with this number of a code has to carry out.
type function struct {
	program api.Program
	info    api.Info
	code    api.Code
	number  int
	own     api.CodeFunc // what code.Compile makes of the function
	table   []api.Instr  // for each active line the instruction that carries it out, for an idle one a BNop
}

// table returns for each active line the instruction of the table of chapter 9, and a BNop for each idle one. What code.Compile returns has this instruction, with the line as its last one.
func table(lines []api.Line, compiled []api.Instr) []api.Instr {
	rows := slices.Repeat([]api.Instr{{Op: api.BNop, A: none, B: none, C: none}}, len(lines))
	for _, ins := range compiled {
		if ins.Op != api.BJump {
			rows[last(ins)] = ins
		}
	}
	return rows
}

// last returns the last line of an instruction that has Lines.
func last(ins api.Instr) int { return ins.Lines[len(ins.Lines)-1] }

// check returns the first error of the function, and the number of an instruction as its place.
func (f function) check() (int, api.Errno) {
	given := f.code.Funcs[f.number]
	if given.Params != f.own.Params || given.Slots != f.own.Slots {
		return 0, api.ErrSlot
	}
	looked, complete := f.lookedAt()
	if n, e := f.search(looked); e != api.OK {
		return n, e
	}
	if !complete {
		return len(looked), api.ErrCharge
	}
	return 0, api.OK
}

// lookedAt returns which instructions are looked at, and whether all lines have a home.
func (f function) lookedAt() (looked []bool, complete bool) {
	looked, complete = Reached(f.code, f.number), true
	for line := range f.table {
		n, _, ok := code.Pc(f.code, f.place(line))
		if ok && n < len(looked) {
			looked[n] = true
		} else {
			complete = false
		}
	}
	return looked, complete
}

// search returns the first error of the instructions that are looked at.
func (f function) search(looked []bool) (at int, e api.Errno) {
	// Each one supposes that those before it hold.
	obligations := [...]struct {
		holds func(n int) bool
		err   api.Errno
	}{
		{f.charges, api.ErrCharge},
		{f.carriesOut, api.ErrCode},
		{f.usesSlots, api.ErrSlot},
		{f.goesOn, api.ErrTarget},
		{f.catches, api.ErrCatch},
	}
instructions:
	for n := range looked {
		if !looked[n] {
			continue
		}
		for _, o := range obligations {
			if !o.holds(n) {
				at, e = n, o.err
				break instructions
			}
		}
	}
	return at, e
}

func (f function) instruction(n int) api.Instr { return f.code.Funcs[f.number].Ins[n] }

// row returns the instruction of the table for the last line of an instruction.
func (f function) row(n int) api.Instr { return f.table[last(f.instruction(n))] }

func (f function) place(line int) api.Place { return api.Place{Fun: f.number, Line: line} }

func (f function) next(line int) int { return check.Next(f.program, f.info, f.place(line)) }

func (f function) skip(line int) int { return check.Skip(f.program, f.info, f.place(line)) }

func (f function) idle(line int) bool { return f.table[line].Op == api.BNop }

// begins returns the first line of an instruction, and for the number of all instructions the end of the function; none, if there is none.
func (f function) begins(n int) int {
	all := f.code.Funcs[f.number].Ins
	switch {
	case n == len(all):
		return len(f.table)
	case 0 <= n && n < len(all) && len(all[n].Lines) > 0:
		return all[n].Lines[0]
	}
	return none
}
