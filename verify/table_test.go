package verify

import (
	"math"
	"slices"
	"strings"
	"testing"

	"facsimile/api"
)

// row has lines, and one of their instructions, as the table of chapter 9 says it, without Lines. (A of BJump and BFalse does not count.)
type row struct {
	lines string
	n     int
	ins   api.Instr
}

// of returns the instruction of a row.
func of(op, a, b, c int, k api.Value, args ...int) api.Instr {
	return api.Instr{Op: op, A: a, B: b, C: c, K: k, Args: args}
}

// rows returns the table for lines of a function with the slots a, b, c, d.
func rows() []row {
	var no api.Value
	str := func(s string) api.Value { return api.Value{Kind: api.Str, S: s} }
	fun := func(n int) api.Value { return api.Value{Kind: api.Fun, N: n} }
	list := []row{
		{"d = 7", 0, of(api.OpConst, 3, -1, -1, integer(7))},
		{"a = -7", 0, of(api.OpConst, 0, -1, -1, integer(-7))},
		{"c = nil", 0, of(api.OpConst, 2, -1, -1, api.Value{Kind: api.Nil})},
		{"b = true", 0, of(api.OpConst, 1, -1, -1, api.Value{Kind: api.Bool, N: 1})},
		{"b = false", 0, of(api.OpConst, 1, -1, -1, api.Value{Kind: api.Bool})},
		{"b = 'it'", 0, of(api.OpConst, 1, -1, -1, str("it"))},
		{"d = a", 0, of(api.OpMove, 3, 0, -1, no)},
		{"b = not c", 0, of(api.OpNot, 1, 2, -1, no)},
		{"b = neg b", 0, of(api.OpNeg, 1, 1, -1, no)},
		{"a = new Q", 0, of(api.OpNew, 0, -1, -1, integer(1))},
		{"a = new P", 0, of(api.OpNew, 0, -1, -1, integer(0))},
		{"a = d.f", 0, of(api.OpGet, 0, 3, -1, str("f"))},
		{"a.c = d", 0, of(api.OpSet, 0, 3, -1, str("c"))},
		{"c = array b", 0, of(api.OpArray, 2, 1, -1, no)},
		{"a = d[b]", 0, of(api.OpAt, 0, 3, 1, no)},
		{"a[d] = b", 0, of(api.OpPut, 0, 3, 1, no)},
		{"c = len b", 0, of(api.OpLen, 2, 1, -1, no)},
		{"c = call g", 0, of(api.OpCall, 2, -1, -1, fun(2))},
		{"c = call h b a", 0, of(api.OpCall, 2, -1, -1, fun(3), 1, 0)},
		{"c = bind h", 0, of(api.OpBind, 2, -1, -1, fun(3))},
		{"c = bind f d c b", 0, of(api.OpBind, 2, -1, -1, fun(0), 3, 2, 1)},
		{"c = apply b", 0, of(api.OpApply, 2, 1, -1, no)},
		{"c = apply b a b c d d d d d", 0, of(api.OpApply, 2, 1, -1, no, 0, 1, 2, 3, 3, 3, 3, 3)},
		{"c = send b m", 0, of(api.OpSend, 2, 1, -1, str("m"))},
		{"c = send b m d a", 0, of(api.OpSend, 2, 1, -1, str("m"), 3, 0)},
		{"c = weak b", 0, of(api.OpWeak, 2, 1, -1, no)},
		{"c = deref b", 0, of(api.OpDeref, 2, 1, -1, no)},
		{"final b g", 0, of(api.OpFinal, 1, -1, -1, fun(2))},
		{"print d", 0, of(api.OpPrint, 3, -1, -1, no)},
		{"c = input", 0, of(api.OpInput, 2, -1, -1, no)},
		{"c = clock", 0, of(api.OpClock, 2, -1, -1, no)},
		{"spawn 0 g", 0, of(api.OpSpawn, -1, 0, -1, fun(2))},
		{"spawn -3 main", 0, of(api.OpSpawn, -1, -3, -1, fun(1))},
		{"spawn 2 h d a", 0, of(api.OpSpawn, -1, 2, -1, fun(3), 3, 0)},
		{"yield", 0, of(api.OpYield, -1, -1, -1, no)},
		{"throw b", 0, of(api.OpThrow, 1, -1, -1, no)},
		{"return c", 0, of(api.OpReturn, 2, -1, -1, no)},
		{"if c; end", 0, of(api.BFalse, 0, 2, -1, no)},
		{"if d; yield; else; yield; end", 0, of(api.BFalse, 0, 3, -1, no)},
		{"while b; end", 0, of(api.BFalse, 0, 1, -1, no)},
		{"try; yield; finally; end", 1, of(api.BEnter, -1, -1, -1, no)},
		{"try; yield; finally; end", 2, of(api.BLeave, -1, -1, -1, no)},
		{"if c; end", 1, of(api.BNop, -1, -1, -1, no)},
		{"try; catch a; end", 0, of(api.BJump, 0, -1, -1, no)},
		{"while b; end", 1, of(api.BJump, 0, -1, -1, no)},
	}
	for n, sign := range []string{"+", "-", "*", "/", "%", "<", "==", "and", "or", "."} {
		list = append(list, row{"d = a " + sign + " b", 0, of(api.OpAdd+n, 3, 0, 1, no)})
	}
	return list
}

// program returns a program whose function 0 has the lines of a row three times.
func (r row) program(t *testing.T) api.Program {
	t.Helper()
	lines := strings.ReplaceAll(r.lines, "; ", "\n") + "\n"
	return parsed(t, "class P f\nclass Q\nfunc f a b c d\n"+strings.Repeat(lines, 3)+"endfunc\nfunc main\nendfunc\nfunc g\nendfunc\nfunc h x y\nendfunc\n")
}

// changes checks the error of an instruction after a change, as the first one of the function, in the middle, and at the end.
func (r row) changes(t *testing.T, what string, change func(ins *api.Instr), e api.Errno) {
	t.Helper()
	p := r.program(t)
	for turn := range 3 {
		c := compiled(t, p)
		n := r.n + turn*len(c.Funcs[0].Ins)/3
		change(&c.Funcs[0].Ins[n])
		gives(t, what+" in "+r.lines, p, c, api.Place{Line: n}, e)
	}
}

// P10.2: for each operator of lines the instruction of the table is the one that is accepted.
func TestTable(t *testing.T) {
	seen := map[int]bool{}
	for _, r := range rows() {
		p := r.program(t)
		c := compiled(t, p)
		all := c.Funcs[0].Ins
		for turn := range 3 {
			n := r.n + turn*len(all)/3
			ins := r.ins
			ins.Lines = all[n].Lines
			if jumps(ins.Op) {
				ins.A = all[n].A
			}
			all[n] = ins
		}
		gives(t, "the instruction of "+r.lines, p, c, api.Place{}, api.OK)
		seen[r.ins.Op] = true
	}
	for op := api.OpConst; op <= api.OpReturn; op++ {
		if !seen[op] {
			t.Errorf("no row for the operator %d", op)
		}
	}
	for op := api.BNop; op <= api.BLeave; op++ {
		if !seen[op] {
			t.Errorf("no row for the operator %d", op)
		}
	}
}

// P10.2 (ErrCode): another operator. (A BNop and a BJump for an active line, and other operators for an idle one, are ErrCharge.)
func TestOtherOperators(t *testing.T) {
	idle := func(op int) bool { return op == api.BNop || op == api.BJump }
	for _, r := range rows() {
		for op := -1; op < 110; op++ {
			if op == r.ins.Op || idle(op) && idle(r.ins.Op) {
				continue
			}
			e := api.ErrCode
			if idle(op) || idle(r.ins.Op) {
				e = api.ErrCharge
			}
			r.changes(t, "another operator", func(ins *api.Instr) { ins.Op = op }, e)
		}
	}
}

// P10.2 (ErrCode): another constant: its kind, its number, its string.
func TestOtherConstants(t *testing.T) {
	for _, r := range rows() {
		for _, by := range []int{-1, 1, math.MinInt} {
			r.changes(t, "Kind of K", func(ins *api.Instr) { ins.K.Kind += by }, api.ErrCode)
			r.changes(t, "N of K", func(ins *api.Instr) { ins.K.N += by }, api.ErrCode)
		}
		r.changes(t, "S of K", func(ins *api.Instr) { ins.K.S += "x" }, api.ErrCode)
		r.changes(t, "K", func(ins *api.Instr) { ins.K = api.Value{Kind: api.Ref, N: 12345, S: "?"} }, api.ErrCode)
		if r.ins.K != (api.Value{}) {
			r.changes(t, "no K", func(ins *api.Instr) { ins.K = api.Value{} }, api.ErrCode)
		}
	}
}

// P10.2 (ErrCode, ErrSlot): arguments too few or too many, and others.
func TestOtherArguments(t *testing.T) {
	for _, r := range rows() {
		for _, slot := range []int{-1, 0, 3, 77} {
			r.changes(t, "an argument more", func(ins *api.Instr) { ins.Args = append(ins.Args, slot) }, api.ErrCode)
			r.changes(t, "an argument more in front", func(ins *api.Instr) { ins.Args = slices.Insert(ins.Args, 0, slot) }, api.ErrCode)
		}
		for n, slot := range r.ins.Args {
			r.changes(t, "an argument less", func(ins *api.Instr) { ins.Args = slices.Delete(ins.Args, n, n+1) }, api.ErrCode)
			for _, other := range []int{slot - 1, slot + 1, -1, 4, math.MinInt, math.MaxInt} {
				if other != slot {
					r.changes(t, "another argument", func(ins *api.Instr) { ins.Args[n] = other }, api.ErrSlot)
				}
			}
		}
		if len(r.ins.Args) > 0 {
			r.changes(t, "no arguments", func(ins *api.Instr) { ins.Args = nil }, api.ErrCode)
		}
		if n := len(r.ins.Args); n > 1 && r.ins.Args[0] != r.ins.Args[n-1] {
			r.changes(t, "arguments swapped", func(ins *api.Instr) { slices.Reverse(ins.Args) }, api.ErrSlot)
		}
	}
}

// P10.2 (ErrCode, ErrSlot, ErrTarget): A, B and C.
func TestOtherSlots(t *testing.T) {
	for _, r := range rows() {
		// The errors of A, B and C.
		e := [3]api.Errno{api.ErrSlot, api.ErrSlot, api.ErrSlot}
		switch r.ins.Op {
		case api.OpSpawn:
			e[1] = api.ErrCode
		case api.BFalse:
			e[0] = api.ErrTarget
		case api.BJump:
			e = [3]api.Errno{api.ErrTarget, api.ErrCode, api.ErrCode}
		case api.BNop:
			e = [3]api.Errno{api.ErrCode, api.ErrCode, api.ErrCode}
		}
		for _, by := range []int{-1, 1, 5, math.MinInt} {
			r.changes(t, "A", func(ins *api.Instr) { ins.A += by }, e[0])
			r.changes(t, "B", func(ins *api.Instr) { ins.B += by }, e[1])
			r.changes(t, "C", func(ins *api.Instr) { ins.C += by }, e[2])
		}
	}
}
