package source

import (
	"facsimile/api"
	"facsimile/live"
)

// body is what the lines of a function are, and where their blocks go on.
type body struct {
	lines []api.Line
	ends  []int
}

// function is a function of a program, with what is known of it.
type function struct {
	body
	slots          []string
	params         int
	before, across [][]bool // which slots are live
}

func bodyOf(p api.Program, i api.Info, fun int) body { return body{p.Funcs[fun].Lines, i.Ends[fun]} }

func newFunction(p api.Program, i api.Info, fun int) *function {
	return &function{
		body:   bodyOf(p, i, fun),
		slots:  i.Slots[fun],
		params: len(p.Funcs[fun].Params),
		before: live.Before(p, i, fun),
		across: live.Across(p, i, fun),
	}
}

// finals returns how many finally parts contain a line, or end at it.
func (b body) finals(line int) int {
	n := 0
	for clause, l := range b.lines {
		if l.Op == api.OpFinally && clause < line && line <= b.ends[clause] {
			n++
		}
	}
	return n
}

// closes reports whether a finally part ends at a line.
func (b body) closes(line int) bool {
	for clause, l := range b.lines {
		if l.Op == api.OpFinally && line == b.ends[clause] {
			return true
		}
	}
	return false
}
