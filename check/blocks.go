package check

import (
	"slices"

	"facsimile/api"
)

// block is a block that has no end yet: its first line, and its last clause up to now, with its operator.
type block struct{ first, clause, op int }

// blocks has the blocks of the lines of a function that were added: Ends and Parent of Info, and the blocks that are open, the outermost one first.
type blocks struct {
	ends, parent []int
	open         []block
}

// add adds the next line, and reports whether it fits the blocks around it.
func (b *blocks) add(op int) bool {
	line := len(b.ends)
	now := block{first: line}
	if before := continues(op); before != nil {
		last := len(b.open) - 1
		if last < 0 || !slices.Contains(before, b.open[last].op) {
			return false
		}
		now = b.open[last]
		b.ends[now.clause] = line
		b.open = b.open[:last]
	}
	// The block of this line is not open here: a clause or an end belongs to what is around its block.
	b.parent = append(b.parent, b.around())
	b.ends = append(b.ends, none)
	switch {
	case op == api.OpEnd:
		b.ends[line] = now.first
	case clause(op):
		b.open = append(b.open, block{now.first, line, op})
	}
	return true
}

// around returns the clause whose part the next line is in.
func (b *blocks) around() int {
	if len(b.open) == 0 {
		return none
	}
	return b.open[len(b.open)-1].clause
}

// continues returns after which clauses a line with this operator continues or ends a block; nothing for all others.
func continues(op int) []int {
	switch op {
	case api.OpElse:
		return []int{api.OpIf}
	case api.OpCatch:
		return []int{api.OpTry}
	case api.OpFinally:
		return []int{api.OpTry, api.OpCatch}
	case api.OpEnd:
		return []int{api.OpIf, api.OpElse, api.OpWhile, api.OpCatch, api.OpFinally}
	}
	return nil
}

// clause reports whether a line with this operator is a clause.
func clause(op int) bool {
	switch op {
	case api.OpIf, api.OpElse, api.OpWhile, api.OpTry, api.OpCatch, api.OpFinally:
		return true
	}
	return false
}
