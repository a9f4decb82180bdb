package code

import (
	"iter"
	"slices"

	"facsimile/api"
	"facsimile/check"
)

// function is a function of a program that check.Check accepts, with its Info, and the Lines of its instructions.
type function struct {
	program api.Program
	info    api.Info
	number  int
	rows    [][]int
}

func newFunction(p api.Program, i api.Info, number int) function {
	f := function{program: p, info: i, number: number}
	f.rows = f.layout()
	return f
}

func (f function) compile() api.CodeFunc {
	return api.CodeFunc{
		Params:   len(f.program.Funcs[f.number].Params),
		Slots:    len(f.info.Slots[f.number]),
		Ins:      each(f.rows, f.instruction),
		Handlers: f.handlers(),
	}
}

// each returns what a function returns for the elements of a list, in order.
func each[T, U any](list []T, result func(T) U) []U {
	var results []U
	for _, element := range list {
		results = append(results, result(element))
	}
	return results
}

func (f function) lines() []api.Line { return f.program.Funcs[f.number].Lines }

// ends returns where the block of a clause goes on, and where the block of an end begins.
func (f function) ends(line int) int { return f.info.Ends[f.number][line] }

// slot returns the slot of a variable, and none for an empty name.
func (f function) slot(name string) int { return check.Slot(f.info, f.number, name) }

func (f function) next(line int) int { return check.Next(f.program, f.info, f.place(line)) }

func (f function) skip(line int) int { return check.Skip(f.program, f.info, f.place(line)) }

func (f function) place(line int) api.Place { return api.Place{Fun: f.number, Line: line} }

// idle reports whether a line does nothing but say where control goes on. The end of the function is not idle.
func (f function) idle(line int) bool {
	if line == len(f.lines()) {
		return false
	}
	switch f.lines()[line].Op {
	case api.OpTry, api.OpElse, api.OpCatch:
		return true
	case api.OpEnd:
		return f.lines()[f.lastClause(line)].Op != api.OpFinally
	}
	return false
}

// lastClause returns the last clause of the block of an end.
func (f function) lastClause(end int) int {
	clause := f.ends(end)
	for f.ends(clause) != end {
		clause = f.ends(clause)
	}
	return clause
}

// waits reports whether a line is idle, and control goes on at the line after it, whose instruction can have both.
func (f function) waits(line int) bool { return f.idle(line) && f.next(line) == line+1 }

// jumps reports whether a line is idle, and control goes on elsewhere.
func (f function) jumps(line int) bool { return f.idle(line) && f.next(line) != line+1 }

// chain goes through the idle lines at which control goes on, one after the other, beginning with this line.
func (f function) chain(line int) iter.Seq[int] {
	return func(yield func(line int) bool) {
		for f.idle(line) && yield(line) {
			line = f.next(line)
		}
	}
}

// goal returns the first line, from this one on, at which control goes on and that is not idle.
func (f function) goal(line int) int {
	for idle := range f.chain(line) {
		line = f.next(idle)
	}
	return line
}

// entered returns for each line, and for the end, whether control comes to it from elsewhere, so that an instruction has to begin with it.
func (f function) entered() []bool {
	entered := make([]bool, len(f.lines())+1)
	for line, l := range f.lines() {
		if to := f.skip(line); to != none {
			entered[to] = true
		}
		if l.Op == api.OpCatch || l.Op == api.OpFinally {
			entered[line+1] = true
		}
		if f.jumps(line) {
			entered[f.goal(line)] = true
		}
	}
	return entered
}

// layout returns the Lines of all instructions, in order.
func (f function) layout() [][]int {
	var rows [][]int
	var row []int
	finish := func() {
		if len(row) > 0 {
			rows, row = append(rows, row), nil
		}
	}
	entered := f.entered()
	for line := range f.lines() {
		if entered[line] {
			finish()
		}
		if f.jumps(line) {
			row = slices.AppendSeq(row, f.chain(line))
		} else {
			row = append(row, line)
		}
		if !f.waits(line) {
			finish()
		}
	}
	finish()
	return rows
}
