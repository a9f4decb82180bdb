package code

import "facsimile/api"

// handlers returns the handlers of all blocks. A block that is in another one ends before it, and of two that are apart the first one does: so they are in the order of their ends.
func (f function) handlers() []api.Handler {
	var all []api.Handler
	for line, l := range f.lines() {
		if l.Op == api.OpEnd {
			all = append(all, f.block(line)...)
		}
	}
	return all
}

// block returns the handlers of the block with this end.
func (f function) block(end int) []api.Handler {
	var all []api.Handler
	var before []int
clauses:
	for clause := f.ends(end); ; clause = f.ends(clause) {
		switch f.lines()[clause].Op {
		case api.OpTry:
		case api.OpCatch, api.OpFinally:
			for _, other := range before {
				all = append(all, f.handler(other, clause)...)
			}
		default:
			// This is its end, or it is no block with try at all.
			break clauses
		}
		before = append(before, clause)
	}
	return all
}

// handler returns the handler that leads from the part of a clause to that of a catch or a finally, if there are instructions in the part.
func (f function) handler(from, to int) []api.Handler {
	l := f.lines()[to]
	h := api.Handler{
		From:    f.before(from + 1),
		To:      f.before(f.ends(from)),
		Target:  f.of(to + 1),
		Slot:    f.slot(l.A),
		Finally: l.Op == api.OpFinally,
	}
	if h.From == h.To {
		return nil
	}
	return []api.Handler{h}
}

// before returns how many instructions have their last home before a line: the number of the first one that has it there or later.
func (f function) before(line int) int {
	count := 0
	for _, row := range f.rows {
		if lastHome(row) < line {
			count++
		}
	}
	return count
}
