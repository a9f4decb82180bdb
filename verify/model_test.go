package verify

import (
	"slices"

	"facsimile/api"
	"facsimile/check"
)

// model is a function of a program and of a code with the same classes and names, of which it says what the chapter says, in the plainest way. It asks nothing of package code.
type model struct {
	program api.Program
	info    api.Info
	lines   []api.Line
	code    api.CodeFunc
	fun     int
}

// verdict returns what Check has to return for a code with the classes and names of a program.
func verdict(p api.Program, i api.Info, c api.Code) (api.Place, api.Errno) {
	for fun, f := range c.Funcs {
		m := model{p, i, p.Funcs[fun].Lines, f, fun}
		if f.Params != len(p.Funcs[fun].Params) || f.Slots != len(i.Slots[fun]) {
			return api.Place{Fun: fun}, api.ErrSlot
		}
		reached := reachedBySweeps(f)
		for n := range f.Ins {
			if reached[n] || slices.ContainsFunc(m.homes(n), func(line int) bool { return m.home(line) == n }) {
				if e := m.instruction(n); e != api.OK {
					return api.Place{Fun: fun, Line: n}, e
				}
			}
		}
		for line := range m.lines {
			if m.home(line) < 0 {
				return api.Place{Fun: fun, Line: len(f.Ins)}, api.ErrCharge
			}
		}
	}
	return api.Place{}, api.OK
}

func (m model) has(line int) bool { return 0 <= line && line < len(m.lines) }

// homes returns the lines of the function that have a home in an instruction.
func (m model) homes(n int) []int {
	var all []int
	for k, line := range m.code.Ins[n].Lines {
		if k > 0 && m.code.Ins[n].Lines[k-1] != line-1 {
			break
		}
		if m.has(line) {
			all = append(all, line)
		}
	}
	return all
}

// home returns the instruction with the first home of a line, or -1.
func (m model) home(line int) int {
	for n := range m.code.Ins {
		if slices.Contains(m.homes(n), line) {
			return n
		}
	}
	return -1
}

func (m model) at(line int) api.Place { return api.Place{Fun: m.fun, Line: line} }

// completes reports whether a line is the end of a block with a finally.
func (m model) completes(line int) bool {
	for other, l := range m.lines {
		if l.Op == api.OpFinally && m.info.Ends[m.fun][other] == line {
			return true
		}
	}
	return false
}

func (m model) idle(line int) bool {
	op := m.lines[line].Op
	return op == api.OpTry || op == api.OpElse || op == api.OpCatch || op == api.OpEnd && !m.completes(line)
}

// begins reports whether the instruction n begins with a line.
func (m model) begins(n, line int) bool {
	if n == len(m.code.Ins) {
		return line == len(m.lines)
	}
	return 0 <= n && n < len(m.code.Ins) && len(m.code.Ins[n].Lines) > 0 && m.code.Ins[n].Lines[0] == line
}

// instruction returns the first error of an instruction.
func (m model) instruction(n int) api.Errno {
	ins := m.code.Ins[n]
	nop := ins.Op == api.BNop || ins.Op == api.BJump
	for k, line := range ins.Lines {
		if !m.has(line) || k+1 < len(ins.Lines) && !m.idle(line) || k > 0 && check.Next(m.program, m.info, m.at(ins.Lines[k-1])) != line {
			return api.ErrCharge
		}
	}
	if len(ins.Lines) == 0 || m.idle(ins.Lines[len(ins.Lines)-1]) != nop {
		return api.ErrCharge
	}
	line := ins.Lines[len(ins.Lines)-1]
	if nop {
		if ins.B != -1 || ins.C != -1 || len(ins.Args) > 0 || ins.K != (api.Value{}) || ins.Op == api.BNop && ins.A != -1 {
			return api.ErrCode
		}
	} else {
		row := m.row(m.lines[line])
		if ins.Op != row.Op || ins.K != row.K || len(ins.Args) != len(row.Args) || ins.Op == api.OpSpawn && ins.B != row.B {
			return api.ErrCode
		}
		if ins.Op != api.BFalse && ins.A != row.A || ins.B != row.B || ins.C != row.C || !slices.Equal(ins.Args, row.Args) {
			return api.ErrSlot
		}
	}
	return m.control(n, line)
}

// control returns the first error of where control goes from an instruction that carries out a line.
func (m model) control(n, line int) api.Errno {
	ins, at := m.code.Ins[n], m.at(line)
	to := check.Next(m.program, m.info, at)
	if ins.Op != api.BJump && ins.Op != api.OpThrow && ins.Op != api.OpReturn && !m.begins(n+1, to) ||
		ins.Op == api.BJump && !m.begins(ins.A, to) ||
		ins.Op == api.BFalse && !m.begins(ins.A, check.Skip(m.program, m.info, at)) {
		return api.ErrTarget
	}
	target, slot, finally, ok := check.Catch(m.program, m.info, at)
	if (check.Throws(m.lines[line].Op) || m.completes(line)) && !m.handled(n, false, target, slot, finally, ok) {
		return api.ErrCatch
	}
	target, ok = check.Finally(m.program, m.info, at)
	if (m.lines[line].Op == api.OpReturn || m.completes(line)) && !m.handled(n, true, target, -1, true, ok) {
		return api.ErrCatch
	}
	return api.OK
}

// handled reports whether the first handler of an instruction is one for this target, or there is none, if ok is false.
func (m model) handled(n int, returns bool, target, slot int, finally, ok bool) bool {
	for _, h := range m.code.Handlers {
		if h.From <= n && n < h.To && (!returns || h.Finally) {
			return ok && m.begins(h.Target, target) && h.Slot == slot && h.Finally == finally
		}
	}
	return !ok
}

// row returns the instruction of the table for an active line.
func (m model) row(l api.Line) api.Instr {
	slot := func(name string) int { return slices.Index(m.info.Slots[m.fun], name) }
	ins := api.Instr{Op: l.Op, A: -1, B: -1, C: -1}
	switch l.Op {
	case api.OpIf, api.OpWhile:
		ins.Op, ins.B = api.BFalse, slot(l.A)
		return ins
	case api.OpFinally:
		ins.Op = api.BEnter
		return ins
	case api.OpEnd:
		ins.Op = api.BLeave
		return ins
	}
	ins.A, ins.B, ins.C = slot(l.A), slot(l.B), slot(l.C)
	for _, name := range l.Args {
		ins.Args = append(ins.Args, slot(name))
	}
	switch l.Op {
	case api.OpConst:
		ins.K = l.Const
	case api.OpNew:
		ins.K = integer(slices.IndexFunc(m.program.Classes, func(c api.Class) bool { return c.Name == l.Name }))
	case api.OpGet, api.OpSet, api.OpSend:
		ins.K = api.Value{Kind: api.Str, S: l.Name}
	case api.OpSpawn, api.OpCall, api.OpBind, api.OpFinal:
		ins.K = api.Value{Kind: api.Fun, N: slices.IndexFunc(m.program.Funcs, func(f api.Func) bool { return f.Name == l.Name })}
	}
	if l.Op == api.OpSpawn {
		ins.B = l.Const.N
	}
	return ins
}
