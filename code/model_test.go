package code

import (
	"slices"

	"facsimile/api"
	"facsimile/check"
)

// block is a block of lines: its clauses in order, and its end.
type block struct {
	clauses []int
	end     int
}

// model is a function as the chapter tells it; its blocks are found by descent, so that nothing is asked of package check but numbers of names.
type model struct {
	program api.Program
	fun     int
	lines   []api.Line
	blocks  []block // in the order of their first lines
	made    []made
}

// made is an instruction while they are made: its Lines, and the line to which it jumps, if it is a BJump.
type made struct {
	lines []int
	jumps bool
	goal  int
}

// modelOf returns the model of a function that is right.
func modelOf(p api.Program, fun int) *model {
	m := &model{program: p, fun: fun, lines: p.Funcs[fun].Lines}
	if end := m.part(0); end != len(m.lines) {
		panic("the test has wrong blocks")
	}
	slices.SortFunc(m.blocks, func(a, b block) int { return a.clauses[0] - b.clauses[0] })
	return m
}

// part passes a part, and returns the line after it.
func (m *model) part(at int) int {
	for at < len(m.lines) {
		switch m.lines[at].Op {
		case api.OpElse, api.OpCatch, api.OpFinally, api.OpEnd:
			return at
		case api.OpIf, api.OpWhile, api.OpTry:
			b := block{clauses: []int{at}}
			for at = m.part(at + 1); m.lines[at].Op != api.OpEnd; at = m.part(at + 1) {
				b.clauses = append(b.clauses, at)
			}
			b.end = at
			m.blocks = append(m.blocks, b)
		}
		at++
	}
	return at
}

// has returns the clause with this operator of a block, or -1.
func (m *model) has(b block, op int) int {
	for _, c := range b.clauses {
		if m.lines[c].Op == op {
			return c
		}
	}
	return -1
}

// of returns the block of a clause or an end.
func (m *model) of(line int) block {
	for _, b := range m.blocks {
		if b.end == line || slices.Contains(b.clauses, line) {
			return b
		}
	}
	panic("no line of a block")
}

// next returns where control goes on after a line that completes, with a true condition; -1, if nowhere.
func (m *model) next(line int) int {
	switch m.lines[line].Op {
	case api.OpThrow, api.OpReturn:
		return -1
	case api.OpElse:
		return m.of(line).end + 1
	case api.OpCatch:
		if f := m.has(m.of(line), api.OpFinally); f >= 0 {
			return f
		}
		return m.of(line).end + 1
	case api.OpEnd:
		if w := m.has(m.of(line), api.OpWhile); w >= 0 {
			return w
		}
	}
	return line + 1
}

// skip returns where control goes on after an if or a while with a false condition.
func (m *model) skip(line int) int {
	b := m.of(line)
	if e := m.has(b, api.OpElse); e >= 0 {
		return e + 1
	}
	return b.end + 1
}

func (m *model) idle(line int) bool {
	switch m.lines[line].Op {
	case api.OpTry, api.OpElse, api.OpCatch:
		return true
	case api.OpEnd:
		return m.has(m.of(line), api.OpFinally) < 0
	}
	return false
}

func (m *model) goal(line int) int {
	if line == len(m.lines) || !m.idle(line) {
		return line
	}
	return m.goal(m.next(line))
}

func (m *model) falls(line int) bool { return m.next(line) == line+1 }

func (m *model) entered(line int) bool {
	for other, l := range m.lines {
		switch {
		case (l.Op == api.OpIf || l.Op == api.OpWhile) && m.skip(other) == line,
			(l.Op == api.OpCatch || l.Op == api.OpFinally) && line == other+1,
			m.idle(other) && !m.falls(other) && m.goal(m.next(other)) == line:
			return true
		}
	}
	return false
}

// make makes the instructions, by the rules 1 to 4 of the chapter.
func (m *model) make() {
	var waiting []int
	for line := range m.lines {
		if m.entered(line) && len(waiting) > 0 {
			m.made = append(m.made, made{lines: waiting})
			waiting = nil
		}
		switch {
		case m.idle(line) && m.falls(line):
			waiting = append(waiting, line)
		case m.idle(line):
			goal := m.goal(line)
			lines := append(waiting, line)
			for n := m.next(line); n != goal; n = m.next(n) {
				lines = append(lines, n)
			}
			m.made = append(m.made, made{lines, true, goal})
			waiting = nil
		default:
			m.made = append(m.made, made{lines: append(waiting, line)})
			waiting = nil
		}
	}
	if len(waiting) > 0 {
		m.made = append(m.made, made{lines: waiting})
	}
}

// at returns the instruction whose Lines begin with a line.
func (m *model) at(line int) int {
	for n, x := range m.made {
		if x.lines[0] == line {
			return n
		}
	}
	if line != len(m.lines) {
		panic("no instruction begins with the line")
	}
	return len(m.made)
}

func (m *model) slot(name string) int {
	names := slices.Clone(m.program.Funcs[m.fun].Params)
	for _, l := range m.lines {
		for _, s := range append([]string{l.A, l.B, l.C}, l.Args...) {
			if s != "" && !slices.Contains(names, s) {
				names = append(names, s)
			}
		}
	}
	return slices.Index(names, name)
}

// row is a row of the table of the chapter: which of A, B, C are slots, and what K is of Name.
type row struct{ slots, k string }

func table() map[int]row {
	t := map[int]row{
		api.OpConst: {"A", "const"}, api.OpNew: {"A", "class"}, api.OpGet: {"AB", "name"}, api.OpSet: {"AB", "name"},
		api.OpCall: {"A", "fun"}, api.OpBind: {"A", "fun"}, api.OpApply: {"AB", ""}, api.OpSend: {"AB", "name"},
		api.OpFinal: {"A", "fun"}, api.OpSpawn: {"", "fun"}, api.OpYield: {"", ""}, api.OpAt: {"ABC", ""}, api.OpPut: {"ABC", ""},
	}
	for _, op := range []int{api.OpMove, api.OpNot, api.OpNeg, api.OpArray, api.OpLen, api.OpWeak, api.OpDeref} {
		t[op] = row{"AB", ""}
	}
	for op := api.OpAdd; op <= api.OpCat; op++ {
		t[op] = row{"ABC", ""}
	}
	for _, op := range []int{api.OpPrint, api.OpThrow, api.OpReturn, api.OpInput, api.OpClock} {
		t[op] = row{"A", ""}
	}
	return t
}

// active returns the instruction of the table for an active line.
func (m *model) active(line int) api.Instr {
	l := m.lines[line]
	ins := api.Instr{Op: l.Op, A: -1, B: -1, C: -1}
	switch l.Op {
	case api.OpIf, api.OpWhile:
		ins.Op, ins.A, ins.B = api.BFalse, m.at(m.skip(line)), m.slot(l.A)
		return ins
	case api.OpFinally:
		ins.Op = api.BEnter
		return ins
	case api.OpEnd:
		ins.Op = api.BLeave
		return ins
	case api.OpSpawn:
		ins.B = l.Const.N
	}
	r := table()[l.Op]
	for n, name := range []string{l.A, l.B, l.C}[:len(r.slots)] {
		*[]*int{&ins.A, &ins.B, &ins.C}[n] = m.slot(name)
	}
	for _, name := range l.Args {
		ins.Args = append(ins.Args, m.slot(name))
	}
	switch r.k {
	case "const":
		ins.K = l.Const
	case "class":
		ins.K = integer(slices.IndexFunc(m.program.Classes, func(c api.Class) bool { return c.Name == l.Name }))
	case "name":
		ins.K = str(l.Name)
	case "fun":
		ins.K = funOf(slices.IndexFunc(m.program.Funcs, func(f api.Func) bool { return f.Name == l.Name }))
	}
	return ins
}

// last returns the last line with its home in an instruction.
func (m *model) last(x made) int {
	n := 0
	for n+1 < len(x.lines) && x.lines[n]+1 == x.lines[n+1] {
		n++
	}
	return x.lines[n]
}

// handler adds the handler for the part between two lines, with the target after a clause.
func (m *model) handler(f *api.CodeFunc, from, to, clause int) {
	var in []int
	for n, x := range m.made {
		if last := m.last(x); from < last && last < to {
			in = append(in, n)
		}
	}
	if len(in) == 0 {
		return
	}
	h := api.Handler{From: in[0], To: in[len(in)-1] + 1, Target: m.at(clause + 1), Slot: -1, Finally: true}
	if m.lines[clause].Op == api.OpCatch {
		h.Slot, h.Finally = m.slot(m.lines[clause].A), false
	}
	f.Handlers = append(f.Handlers, h)
}

// inward returns the blocks, each before all that contain it, otherwise in the order of their first lines.
func (m *model) inward() []block {
	var list []block
	left := slices.Clone(m.blocks)
	for len(left) > 0 {
		n := slices.IndexFunc(left, func(b block) bool {
			return !slices.ContainsFunc(left, func(o block) bool { return b.clauses[0] < o.clauses[0] && o.end < b.end })
		})
		list = append(list, left[n])
		left = slices.Delete(left, n, n+1)
	}
	return list
}

// code returns the bytecode of the function.
func (m *model) code() api.CodeFunc {
	m.make()
	f := api.CodeFunc{Params: len(m.program.Funcs[m.fun].Params)}
	for m.slotIsUsed(f.Slots) {
		f.Slots++
	}
	for _, x := range m.made {
		ins := api.Instr{Op: api.BNop, A: -1, B: -1, C: -1}
		if x.jumps {
			ins.Op, ins.A = api.BJump, m.at(x.goal)
		} else if last := x.lines[len(x.lines)-1]; !m.idle(last) {
			ins = m.active(last)
		}
		ins.Lines = x.lines
		f.Ins = append(f.Ins, ins)
	}
	for _, b := range m.inward() {
		if m.lines[b.clauses[0]].Op != api.OpTry {
			continue
		}
		try, catch, finally := b.clauses[0], m.has(b, api.OpCatch), m.has(b, api.OpFinally)
		if catch >= 0 {
			m.handler(&f, try, catch, catch)
		}
		switch {
		case finally >= 0 && catch >= 0:
			m.handler(&f, try, catch, finally)
			m.handler(&f, catch, finally, finally)
		case finally >= 0:
			m.handler(&f, try, finally, finally)
		}
	}
	return f
}

func (m *model) slotIsUsed(slot int) bool {
	names := slices.Clone(m.program.Funcs[m.fun].Params)
	for _, l := range m.lines {
		names = append(append(names, l.A, l.B, l.C), l.Args...)
	}
	return slices.ContainsFunc(names, func(s string) bool { return s != "" && m.slot(s) == slot })
}

// codeOf returns the bytecode of a program that is right.
func codeOf(p api.Program) api.Code {
	c := api.Code{Classes: p.Classes}
	for fun, f := range p.Funcs {
		c.Names = append(c.Names, f.Name)
		c.Funcs = append(c.Funcs, modelOf(p, fun).code())
	}
	return c
}

// completes reports whether a line is the end of a block with a finally, where what is pending goes on.
func completes(p api.Program, at api.Place) bool {
	m := modelOf(p, at.Fun)
	return m.lines[at.Line].Op == api.OpEnd && m.has(m.of(at.Line), api.OpFinally) >= 0
}

// throws reports whether an exception can come from a line.
func throws(p api.Program, at api.Place) bool {
	return check.Throws(p.Funcs[at.Fun].Lines[at.Line].Op) || completes(p, at)
}

// returns reports whether a return can come from a line.
func returns(p api.Program, at api.Place) bool {
	return p.Funcs[at.Fun].Lines[at.Line].Op == api.OpReturn || completes(p, at)
}
