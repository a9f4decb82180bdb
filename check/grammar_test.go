package check

import (
	"slices"

	"facsimile/api"
)

// grammar finds blocks in another way than the package does, by descent: it is held against the package.
type grammar struct {
	ops          []int
	ends, parent []int
}

// descend returns Ends and Parent of lines with these operators, or where the first of them is that does not fit.
func descend(ops []int) (g *grammar, at int, ok bool) {
	g = &grammar{ops: ops}
	for range ops {
		g.ends, g.parent = append(g.ends, -1), append(g.parent, -1)
	}
	defer func() {
		if wrong, failed := recover().(int); failed {
			at, ok = wrong, false
		}
	}()
	if end := g.part(0, -1); end < len(ops) {
		return g, end, false
	}
	return g, 0, true
}

func (g *grammar) op(at int) int {
	if at < len(g.ops) {
		return g.ops[at]
	}
	return 0
}

// part passes the lines and blocks of a part, and returns the line after it.
func (g *grammar) part(at, parent int) int {
	for at < len(g.ops) {
		after := at + 1
		switch g.ops[at] {
		case api.OpElse, api.OpCatch, api.OpFinally, api.OpEnd:
			return at
		case api.OpIf:
			after = g.block(at, parent, false, api.OpElse)
		case api.OpWhile:
			after = g.block(at, parent, false)
		case api.OpTry:
			after = g.block(at, parent, true, api.OpCatch, api.OpFinally)
		}
		g.parent[at] = parent
		at = after
	}
	return at
}

// block passes a block that has some of the clauses after the first one, in order; at least one, if some is true.
func (g *grammar) block(first, parent int, some bool, clauses ...int) int {
	last := first
	at := g.part(first+1, first)
	for _, c := range clauses {
		if g.op(at) == c {
			g.ends[last], g.parent[at], last = at, parent, at
			at = g.part(at+1, at)
		}
	}
	if g.op(at) != api.OpEnd || some && last == first {
		panic(at)
	}
	g.ends[last], g.ends[at], g.parent[at] = at, first, parent
	return at + 1
}

// contains reports whether the part of a clause contains a line.
func (g *grammar) contains(clause, line int) bool {
	return clause < line && line < g.ends[clause]
}

// outer returns the clauses whose parts contain a line, the innermost one first, without a look at Parent.
func (g *grammar) outer(line int) []int {
	var list []int
	for n := line - 1; n >= 0; n-- {
		if slices.Contains([]int{api.OpIf, api.OpElse, api.OpWhile, api.OpTry, api.OpCatch, api.OpFinally}, g.ops[n]) && g.contains(n, line) {
			list = append(list, n)
		}
	}
	return list
}

// after returns the clause of this kind in the block of a try, after one of its clauses; -1, if there is none.
func (g *grammar) after(clause, op int) int {
	for n := g.ends[clause]; g.ops[n] != api.OpEnd; n = g.ends[n] {
		if g.ops[n] == op {
			return n
		}
	}
	return -1
}
