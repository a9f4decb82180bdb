package code

import (
	"math"
	"slices"
	"testing"

	"facsimile/api"
	"facsimile/check"
	"facsimile/lang"
)

// operator is the instruction that a line is compiled to; nothing is -1 or a zero value in it that is not named.
type operator struct {
	line    string
	op      int
	a, b, c int
	k       api.Value
	args    []int
}

// P9.1: each operator of the table, with its A, B, C, K and Args. (In the slots 0 to 4 are v, w, x, y and z.)
func TestOperators(t *testing.T) {
	no := api.Value{}
	for _, want := range []operator{
		{"w = nil", api.OpConst, 1, -1, -1, api.Value{Kind: api.Nil}, nil},
		{"v = false", api.OpConst, 0, -1, -1, api.Value{Kind: api.Bool}, nil},
		{"v = true", api.OpConst, 0, -1, -1, api.Value{Kind: api.Bool, N: 1}, nil},
		{"z = -1000000000000000", api.OpConst, 4, -1, -1, integer(-api.MaxInt), nil},
		{"x = 'it''s'", api.OpConst, 2, -1, -1, str("it's"), nil},
		{"x = y", api.OpMove, 2, 3, -1, no, nil},
		{"y = y", api.OpMove, 3, 3, -1, no, nil},
		{"x = not y", api.OpNot, 2, 3, -1, no, nil},
		{"x = neg y", api.OpNeg, 2, 3, -1, no, nil},
		{"x = y + z", api.OpAdd, 2, 3, 4, no, nil},
		{"x = z - y", api.OpSub, 2, 4, 3, no, nil},
		{"x = y * z", api.OpMul, 2, 3, 4, no, nil},
		{"x = y / y", api.OpDiv, 2, 3, 3, no, nil},
		{"z = y % x", api.OpMod, 4, 3, 2, no, nil},
		{"x = y < z", api.OpLess, 2, 3, 4, no, nil},
		{"x = y == z", api.OpEqual, 2, 3, 4, no, nil},
		{"x = y and z", api.OpAnd, 2, 3, 4, no, nil},
		{"x = y or z", api.OpOr, 2, 3, 4, no, nil},
		{"x = y . z", api.OpCat, 2, 3, 4, no, nil},
		{"x = new P", api.OpNew, 2, -1, -1, integer(0), nil},
		{"x = new Q", api.OpNew, 2, -1, -1, integer(1), nil},
		{"x = y.f", api.OpGet, 2, 3, -1, str("f"), nil},
		{"x = y.w", api.OpGet, 2, 3, -1, str("w"), nil},
		{"y.Other = x", api.OpSet, 3, 2, -1, str("Other"), nil},
		{"x = array y", api.OpArray, 2, 3, -1, no, nil},
		{"x = y[z]", api.OpAt, 2, 3, 4, no, nil},
		{"x[y] = z", api.OpPut, 2, 3, 4, no, nil},
		{"x = len y", api.OpLen, 2, 3, -1, no, nil},
		{"x = call g", api.OpCall, 2, -1, -1, funOf(1), nil},
		{"x = call h z y", api.OpCall, 2, -1, -1, funOf(2), []int{4, 3}},
		{"x = call h x x", api.OpCall, 2, -1, -1, funOf(2), []int{2, 2}},
		{"x = bind g", api.OpBind, 2, -1, -1, funOf(1), nil},
		{"x = bind main", api.OpBind, 2, -1, -1, funOf(0), nil},
		{"x = bind h v", api.OpBind, 2, -1, -1, funOf(2), []int{0}},
		{"x = apply y", api.OpApply, 2, 3, -1, no, nil},
		{"x = apply y z v w x y z v w", api.OpApply, 2, 3, -1, no, []int{4, 0, 1, 2, 3, 4, 0, 1}},
		{"x = send y get", api.OpSend, 2, 3, -1, str("get"), nil},
		{"x = send y h z v", api.OpSend, 2, 3, -1, str("h"), []int{4, 0}},
		{"x = weak y", api.OpWeak, 2, 3, -1, no, nil},
		{"x = deref y", api.OpDeref, 2, 3, -1, no, nil},
		{"final y g", api.OpFinal, 3, -1, -1, funOf(1), nil},
		{"final y main", api.OpFinal, 3, -1, -1, funOf(0), nil},
		{"print y", api.OpPrint, 3, -1, -1, no, nil},
		{"x = input", api.OpInput, 2, -1, -1, no, nil},
		{"x = clock", api.OpClock, 2, -1, -1, no, nil},
		{"spawn 0 g", api.OpSpawn, -1, 0, -1, funOf(1), nil},
		{"spawn 3 h z x", api.OpSpawn, -1, 3, -1, funOf(2), []int{4, 2}},
		{"spawn -1 main", api.OpSpawn, -1, -1, -1, funOf(0), nil},
		{"spawn 1000000000000000 g", api.OpSpawn, -1, api.MaxInt, -1, funOf(1), nil},
		{"yield", api.OpYield, -1, -1, -1, no, nil},
		{"throw y", api.OpThrow, 3, -1, -1, no, nil},
		{"return y", api.OpReturn, 3, -1, -1, no, nil},
	} {
		c := compiled(t, mainOf(t, "v = w; x = y; z = v; "+want.line+"; yield"))
		isOperator(t, c.Funcs[0].Ins[3], want, 3)
		if len(c.Funcs[0].Ins) != 5 {
			t.Errorf("%s: %q", want.line, shown(c.Funcs[0]))
		}
	}
}

// isOperator checks an instruction that carries out this line alone.
func isOperator(t *testing.T, ins api.Instr, want operator, line int) {
	t.Helper()
	if ins.Op != want.op || ins.A != want.a || ins.B != want.b || ins.C != want.c || ins.K != want.k || !slices.Equal(ins.Args, want.args) || !slices.Equal(ins.Lines, []int{line}) {
		t.Errorf("%s: %+v", want.line, ins)
	}
}

// P9.1: the operators of blocks.
func TestOperatorsOfBlocks(t *testing.T) {
	no := api.Value{}
	ins := compiled(t, mainOf(t, "v = w; x = y; if y; yield; else; yield; end; yield")).Funcs[0].Ins
	isOperator(t, ins[2], operator{"if", api.BFalse, 5, 3, -1, no, nil}, 2)
	isOperator(t, ins[4], operator{"else", api.BJump, 7, -1, -1, no, nil}, 4)
	isOperator(t, ins[6], operator{"end of if", api.BNop, -1, -1, -1, no, nil}, 6)
	ins = compiled(t, mainOf(t, "v = w; while v; yield; end; yield")).Funcs[0].Ins
	isOperator(t, ins[1], operator{"while", api.BFalse, 4, 0, -1, no, nil}, 1)
	isOperator(t, ins[3], operator{"end of while", api.BJump, 1, -1, -1, no, nil}, 3)
	ins = compiled(t, mainOf(t, "v = w; yield; try; yield; catch y; yield; finally; yield; end; yield")).Funcs[0].Ins
	isOperator(t, ins[3], operator{"catch", api.BJump, 5, -1, -1, no, nil}, 4)
	isOperator(t, ins[5], operator{"finally", api.BEnter, -1, -1, -1, no, nil}, 6)
	isOperator(t, ins[7], operator{"end of finally", api.BLeave, -1, -1, -1, no, nil}, 8)
	ins = compiled(t, mainOf(t, "try; catch y; yield; end; yield")).Funcs[0].Ins
	isOperator(t, ins[1], operator{"yield", api.OpYield, -1, -1, -1, no, nil}, 2)
	isOperator(t, ins[2], operator{"end of catch", api.BNop, -1, -1, -1, no, nil}, 3)
}

// P9.1: the slots of parameters come first, and each function has its own slots, classes and functions by their numbers.
func TestSlotsOfFunctions(t *testing.T) {
	p := parsed(t, "class A\nclass B\nclass C\nfunc f q r\ns = r + q\nx = new C\ns = bind z\nendfunc\nfunc main\nx = new B\nq = call f x q\nspawn 2 z\nendfunc\nfunc z\nq = new A\nfinal q main\nendfunc\n")
	c := compiled(t, p)
	no := api.Value{}
	for fun, list := range [][]operator{
		{{"s = r + q", api.OpAdd, 2, 1, 0, no, nil}, {"x = new C", api.OpNew, 3, -1, -1, integer(2), nil}, {"s = bind z", api.OpBind, 2, -1, -1, funOf(2), nil}},
		{{"x = new B", api.OpNew, 0, -1, -1, integer(1), nil}, {"q = call f x q", api.OpCall, 1, -1, -1, funOf(0), []int{0, 1}}, {"spawn 2 z", api.OpSpawn, -1, 2, -1, funOf(2), nil}},
		{{"q = new A", api.OpNew, 0, -1, -1, integer(0), nil}, {"final q main", api.OpFinal, 0, -1, -1, funOf(1), nil}},
	} {
		for line, want := range list {
			isOperator(t, c.Funcs[fun].Ins[line], want, line)
		}
	}
}

// P9.1: each active operator has an instruction with its own number, but for if, while, finally and end; the others have none.
func TestAllOperators(t *testing.T) {
	seen := map[int]bool{}
	for _, text := range []string{
		"a = 1; b = a; b = not a; b = neg a; b = a + a; b = a - a; b = a * a; b = a / a; b = a % a; b = a < a; b = a == a; b = a and a; b = a or a; b = a . a",
		"a = new P; b = a.f; a.f = b; b = array a; b = a[a]; a[a] = b; b = len a; b = call g; b = bind g; b = apply a; b = send a m",
		"b = weak a; b = deref a; final a g; print a; b = input; b = clock; spawn 0 g; yield; throw a; return a",
		"try; if a; else; end; while a; end; catch e; finally; end",
	} {
		p := mainOf(t, text)
		for _, ins := range compiled(t, p).Funcs[0].Ins {
			seen[ins.Op] = true
			line := p.Funcs[0].Lines[lastHome(ins.Lines)]
			if ins.Op < api.BNop && ins.Op != line.Op {
				t.Errorf("%q has the operator %d", lang.Line(line), ins.Op)
			}
		}
	}
	for op := 0; op < 120; op++ {
		want := api.OpConst <= op && op <= api.OpReturn || api.BNop <= op && op <= api.BLeave
		if seen[op] != want {
			t.Errorf("operator %d: %t", op, seen[op])
		}
	}
}

// P9.1: a constant that no text of a program has, but check.Check accepts.
func TestConstants(t *testing.T) {
	for _, v := range []api.Value{str(""), str("'"), integer(math.MinInt), integer(api.MaxInt), {Kind: api.Ref}, funOf(0), {}} {
		p := mainOf(t, "a = 1")
		p.Funcs[0].Lines[0].Const = v
		i, _, e := check.Check(p)
		if e != api.OK {
			refuses(t, "a constant", p, info(t, mainOf(t, "a = 1")), e)
			continue
		}
		c, e := Compile(p, i)
		if e != api.OK || c.Funcs[0].Ins[0].K != v {
			t.Errorf("%+v: error %d, %+v", v, e, c.Funcs)
		}
	}
}
