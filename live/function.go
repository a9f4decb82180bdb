package live

import (
	"iter"
	"slices"

	"facsimile/api"
	"facsimile/check"
)

// none is the number of a line or a slot that there is not.
const none = -1

// set is a set of slots; no function has more of them.
type set [api.MaxSlots]bool

// add adds all slots of another set.
func (s *set) add(other set) {
	for slot, in := range other {
		s[slot] = s[slot] || in
	}
}

// function is a function of a program that check.Check accepts, with its Info.
type function struct {
	program api.Program
	info    api.Info
	number  int
}

func (f function) lines() []api.Line { return f.program.Funcs[f.number].Lines }

// slot returns the slot of a variable, and none for an empty name.
func (f function) slot(name string) int { return check.Slot(f.info, f.number, name) }

// before returns the slots that are live before each line and the end.
func (f function) before() []set {
	before := make([]set, len(f.lines())+1)
grow:
	for {
		was := slices.Clone(before)
		for line := range slices.Backward(f.lines()) {
			live := f.reads(line)
			live.add(f.ahead(line, before))
			before[line] = live
		}
		for line, live := range before {
			if live != was[line] {
				continue grow
			}
		}
		return before
	}
}

// across returns the slots that are live across each line, from those that are live before them.
func (f function) across(before []set) []set {
	var across []set
	for line := range f.lines() {
		across = append(across, f.ahead(line, before))
	}
	return across
}

// ahead returns the slots that are live where control goes on from a line, and not written on the way there.
func (f function) ahead(line int, before []set) set {
	var ahead set
	for to, slot := range f.ways(line) {
		live := before[to]
		if slot != none {
			live[slot] = false
		}
		ahead.add(live)
	}
	return ahead
}

// ways goes through the lines to which control can go on from a line, each with the slot that is written on the way, or none.
func (f function) ways(line int) iter.Seq2[int, int] {
	at := api.Place{Fun: f.number, Line: line}
	return func(yield func(to, slot int) bool) {
		if to := check.Next(f.program, f.info, at); to != none && !yield(to, f.writes(line)) {
			return
		}
		if to := check.Skip(f.program, f.info, at); to != none && !yield(to, none) {
			return
		}
		if to, slot, _, ok := check.Catch(f.program, f.info, at); ok && f.throws(line) && !yield(to, slot) {
			return
		}
		if to, ok := check.Finally(f.program, f.info, at); ok && f.returns(line) {
			yield(to, none)
		}
	}
}

// throws reports whether an exception can come from a line.
func (f function) throws(line int) bool {
	return check.Throws(f.lines()[line].Op) || f.completes(line)
}

// returns reports whether a return can come from a line.
func (f function) returns(line int) bool {
	return f.lines()[line].Op == api.OpReturn || f.completes(line)
}

// completes reports whether a line is the end of a block that has a finally, where what is pending goes on.
func (f function) completes(line int) bool {
	if f.lines()[line].Op != api.OpEnd {
		return false
	}
	ends := f.info.Ends[f.number]
	for clause := ends[line]; clause != line; clause = ends[clause] {
		if f.lines()[clause].Op == api.OpFinally {
			return true
		}
	}
	return false
}

// reads returns the slots that a line reads.
func (f function) reads(line int) set {
	l := f.lines()[line]
	// A right line has no B, C and Args but those that it reads.
	names := append([]string{l.B, l.C}, l.Args...)
	if readsA(l.Op) {
		names = append(names, l.A)
	}
	var reads set
	for _, name := range names {
		if slot := f.slot(name); slot != none {
			reads[slot] = true
		}
	}
	return reads
}

// writes returns the slot that a line writes when it completes, or none.
func (f function) writes(line int) int {
	l := f.lines()[line]
	// A catch that completes has caught nothing: its A is written on the ways of exceptions.
	if readsA(l.Op) || l.Op == api.OpCatch {
		return none
	}
	return f.slot(l.A)
}

// readsA reports whether lines with this operator read their A; most others write it.
func readsA(op int) bool {
	switch op {
	case api.OpSet, api.OpPut, api.OpFinal, api.OpPrint, api.OpThrow, api.OpReturn, api.OpIf, api.OpWhile:
		return true
	}
	return false
}

// rows returns sets as lists with an element for each slot of the function.
func (f function) rows(sets []set) [][]bool {
	var rows [][]bool
	for _, s := range sets {
		rows = append(rows, slices.Clone(s[:len(f.info.Slots[f.number])]))
	}
	return rows
}
