package check

import "facsimile/api"

// none is the number of a line that there is not.
const none = -1

// routes says where control goes in a function. What it has for the lines may be from the Info of another program: so none of it is taken for the number of a line without a look.
type routes struct {
	lines        []api.Line
	ends, parent []int
}

// find returns the routes of the function of a place; routes without lines, if the place is not right.
func find(p api.Program, i api.Info, at api.Place) routes {
	if at.Fun < 0 || at.Fun >= len(p.Funcs) {
		return routes{}
	}
	lines := p.Funcs[at.Fun].Lines
	if at.Line < 0 || at.Line >= len(lines) {
		return routes{}
	}
	return routes{lines, row(i.Ends, at.Fun), row(i.Parent, at.Fun)}
}

func row(table [][]int, n int) []int {
	if n >= len(table) {
		return nil
	}
	return table[n]
}

// op returns the operator of a line, and 0 if there is no such line.
func (r routes) op(line int) int {
	if line < 0 || line >= len(r.lines) {
		return 0
	}
	return r.lines[line].Op
}

// end returns Ends of a line.
func (r routes) end(line int) int {
	if line < 0 || line >= len(r.ends) {
		return none
	}
	return r.ends[line]
}

// around returns the clause whose part a line is in: Parent, which is less than the line, so that a way outward ends with any Info.
func (r routes) around(line int) int {
	if line < 0 || line >= len(r.parent) || r.parent[line] >= line {
		return none
	}
	return max(r.parent[line], none)
}

func (r routes) next(line int) int {
	if len(r.lines) == 0 {
		return none
	}
	to := r.end(line)
	switch r.op(line) {
	case api.OpThrow, api.OpReturn:
		return none
	case api.OpElse:
		return to + 1
	case api.OpCatch:
		if r.op(to) == api.OpFinally {
			return to
		}
		return to + 1
	case api.OpEnd:
		if r.op(to) == api.OpWhile {
			return to
		}
	}
	return line + 1
}

func (r routes) skip(line int) int {
	switch r.op(line) {
	case api.OpIf, api.OpWhile:
		return r.end(line) + 1
	}
	return none
}

// outward goes from clause to clause, beginning with the one around the line, and returns what found says of the first one for which it finds a line.
func (r routes) outward(line int, found func(int) int) int {
	for n := r.around(line); n != none; n = r.around(n) {
		if to := found(n); to != none {
			return to
		}
	}
	return none
}

// handler returns the catch or the finally to which an exception goes from the part of a clause.
func (r routes) handler(clause int) int {
	// Ends leads to a catch or a finally from a try or a catch alone.
	to := r.end(clause)
	if op := r.op(to); op == api.OpCatch || op == api.OpFinally {
		return to
	}
	return none
}

// final returns the finally that runs after the part of a clause.
func (r routes) final(clause int) int {
	to := r.handler(clause)
	if r.op(to) == api.OpCatch {
		to = r.handler(to)
	}
	if r.op(to) == api.OpFinally {
		return to
	}
	return none
}
