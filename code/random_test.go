package code

import (
	"math/rand/v2"
	"slices"
	"strings"
	"testing"

	"facsimile/api"
	"facsimile/check"
	"facsimile/lang"
)

// maker makes lines of a function whose blocks fit.
type maker struct {
	*rand.Rand
	lines []string
}

// texts are lines of all operators that are no blocks; each ? stands for some variable.
const texts = "? = 1;? = 'it''s';? = nil;? = ?;? = not ?;? = neg ?;? = ? + ?;? = ? - ?;? = ? * ?;? = ? / ?;? = ? % ?;? = ? < ?;? = ? == ?;? = ? and ?;? = ? or ?;? = ? . ?;" +
	"? = new P;? = new Q;? = ?.f;?.g = ?;? = array ?;? = ?[?];?[?] = ?;? = len ?;? = call f0;? = call f2 ? ?;? = bind f0;? = bind f2 ?;? = apply ?;? = apply ? ? ? ?;" +
	"? = send ? m;? = send ? k ?;? = weak ?;? = deref ?;final ? f0;final ? main;print ?;? = input;? = clock;spawn 0 f0;spawn 3 f2 ? ?;yield;throw ?;return ?"

// put adds a line, with some variables.
func (m *maker) put(line string) {
	for strings.Contains(line, "?") {
		line = strings.Replace(line, "?", string(rune('a'+m.IntN(9))), 1)
	}
	m.lines = append(m.lines, line)
}

func (m *maker) part(depth int) {
	for range m.IntN(4) {
		if depth == 0 || len(m.lines) > 40 || m.IntN(3) == 0 {
			all := strings.Split(texts, ";")
			m.put(all[m.IntN(len(all))])
			continue
		}
		m.block(depth)
	}
}

func (m *maker) block(depth int) {
	switch m.IntN(5) {
	case 0:
		m.put("while ?")
		m.part(depth - 1)
	case 1:
		m.put("if ?")
		m.part(depth - 1)
		if m.IntN(2) == 0 {
			m.put("else")
			m.part(depth - 1)
		}
	default:
		m.put("try")
		m.part(depth - 1)
		has := 1 + m.IntN(3)
		if has&1 != 0 {
			m.put("catch ?")
			m.part(depth - 1)
		}
		if has&2 != 0 {
			m.put("finally")
			m.part(depth - 1)
		}
	}
	m.put("end")
}

// randomProgram returns a program that is right, the same one for each seed. Its functions take none and two parameters in turn.
func randomProgram(t *testing.T, seed uint64) api.Program {
	t.Helper()
	r := rand.New(rand.NewPCG(9, seed))
	text := "class P f\nmethod m f1\nmethod k f2\nclass Q\n"
	for _, head := range []string{"f1 b", "main", "f2 a k", "f0", "f3 e d c b a"} {
		m := maker{Rand: r}
		for len(m.lines) == 0 || len(m.lines) > api.MaxLines {
			m.lines = nil
			for range 1 + r.IntN(3) {
				m.block(1 + r.IntN(4))
			}
		}
		text += "func " + head + "\n" + strings.Join(m.lines, "\n") + "\nendfunc\n"
	}
	return parsed(t, text)
}

// likeModel checks the code of a program against that of the model, and all that P9.5 says of it.
func likeModel(t *testing.T, p api.Program) {
	t.Helper()
	c := compiled(t, p)
	want := codeOf(p)
	if !Equal(c, want) || Text(c) != Text(want) {
		t.Fatalf("%s\n%s\nwant\n%s", lang.Print(p), Text(c), Text(want))
	}
	i := info(t, p)
	for fun := range p.Funcs {
		hasHomes(t, p, c, fun)
		goesOn(t, p, i, c, fun)
		catches(t, p, i, c, fun)
	}
}

// hasHomes checks that each line has one home, that Pc and Place tell it, and that instructions are no more than lines.
func hasHomes(t *testing.T, p api.Program, c api.Code, fun int) {
	t.Helper()
	lines, instructions := p.Funcs[fun].Lines, c.Funcs[fun].Ins
	if len(instructions) > len(lines) {
		t.Fatalf("%d instructions for %d lines", len(instructions), len(lines))
	}
	count := make([]int, len(lines))
	for pc, ins := range instructions {
		for k, line := range ins.Lines {
			if at, ok := Place(c, fun, pc, k); !ok || at != (api.Place{Fun: fun, Line: line}) {
				t.Fatalf("Place of %d, %d = %v, %t", pc, k, at, ok)
			}
			if k > 0 && ins.Lines[k-1] != line-1 {
				break
			}
			count[line]++
			if gotPc, gotK, ok := Pc(c, api.Place{Fun: fun, Line: line}); gotPc != pc || gotK != k || !ok {
				t.Fatalf("Pc of %d = %d, %d, %t, want %d, %d", line, gotPc, gotK, ok, pc, k)
			}
		}
	}
	for line, n := range count {
		if n != 1 {
			t.Fatalf("%s: line %d of %d has %d homes", lang.Print(p), line, fun, n)
		}
	}
	end := api.Place{Fun: fun, Line: len(lines)}
	if pc, k, ok := Pc(c, end); pc != len(instructions) || k != 0 || !ok {
		t.Fatalf("Pc of the end = %d, %d, %t", pc, k, ok)
	}
	if at, ok := Place(c, fun, len(instructions), 0); at != end || !ok {
		t.Fatalf("Place of the end = %v, %t", at, ok)
	}
}

// goesOn checks that lines follow each other as control goes on, within instructions and from one to the next.
func goesOn(t *testing.T, p api.Program, i api.Info, c api.Code, fun int) {
	t.Helper()
	instructions := c.Funcs[fun].Ins
	begins := func(pc int) int {
		if pc == len(instructions) {
			return len(p.Funcs[fun].Lines)
		}
		return instructions[pc].Lines[0]
	}
	for pc, ins := range instructions {
		last := ins.Lines[len(ins.Lines)-1]
		for k, line := range ins.Lines[1:] {
			if to := check.Next(p, i, api.Place{Fun: fun, Line: ins.Lines[k]}); to != line {
				t.Fatalf("instruction %d of %d: line %d after %d", pc, fun, line, ins.Lines[k])
			}
		}
		next := check.Next(p, i, api.Place{Fun: fun, Line: last})
		switch ins.Op {
		case api.BJump:
			if begins(ins.A) != next {
				t.Fatalf("instruction %d of %d: line %d after %d", pc, fun, begins(ins.A), last)
			}
		case api.OpThrow, api.OpReturn:
		default:
			if begins(pc+1) != next {
				t.Fatalf("instruction %d of %d: line %d after %d", pc, fun, begins(pc+1), last)
			}
		}
		if skip := check.Skip(p, i, api.Place{Fun: fun, Line: last}); (ins.Op == api.BFalse) != (skip >= 0) || skip >= 0 && begins(ins.A) != skip {
			t.Fatalf("instruction %d of %d: line %d instead of %d", pc, fun, begins(ins.A), skip)
		}
	}
}

// catches checks that handlers lead where package check says.
func catches(t *testing.T, p api.Program, i api.Info, c api.Code, fun int) {
	t.Helper()
	begins := func(h api.Handler) int { return c.Funcs[fun].Ins[h.Target].Lines[0] }
	for line := range p.Funcs[fun].Lines {
		at := api.Place{Fun: fun, Line: line}
		pc, _, _ := Pc(c, at)
		if throws(p, at) {
			target, slot, finally, ok := check.Catch(p, i, at)
			h, has := Catch(c, fun, pc, false)
			if has != ok || ok && (begins(h) != target || h.Slot != slot || h.Finally != finally) {
				t.Fatalf("%s: Catch of line %d of %d = %+v, %t", lang.Print(p), line, fun, h, has)
			}
		}
		if returns(p, at) {
			target, ok := check.Finally(p, i, at)
			h, has := Catch(c, fun, pc, true)
			if has != ok || ok && (begins(h) != target || h.Slot != -1 || !h.Finally) {
				t.Fatalf("%s: Catch with returns of line %d of %d = %+v, %t", lang.Print(p), line, fun, h, has)
			}
		}
	}
}

// P9.1 to P9.3, P9.5: random programs, against the model.
func TestRandomPrograms(t *testing.T) {
	seen := map[int]bool{}
	for seed := range 300 {
		p := randomProgram(t, uint64(seed))
		likeModel(t, p)
		for _, f := range p.Funcs {
			for _, l := range f.Lines {
				seen[l.Op] = true
			}
		}
	}
	for op := api.OpConst; op <= api.OpEnd; op++ {
		if !seen[op] {
			t.Errorf("no line with the operator %d", op)
		}
	}
}

// P9.1 to P9.3, P9.5: all functions of up to six lines with blocks, and lines that go on, throw and return.
func TestAllShortFunctions(t *testing.T) {
	kinds := []api.Line{
		{Op: api.OpYield}, {Op: api.OpReturn, A: "a"}, {Op: api.OpIf, A: "a"}, {Op: api.OpElse}, {Op: api.OpWhile, A: "a"},
		{Op: api.OpTry}, {Op: api.OpCatch, A: "e"}, {Op: api.OpFinally}, {Op: api.OpEnd},
	}
	p := api.Program{Funcs: []api.Func{{Name: "main"}}}
	count := 0
	var grow func(lines []api.Line)
	grow = func(lines []api.Line) {
		p.Funcs[0].Lines = lines
		_, at, e := check.Check(p)
		if e == api.OK {
			count++
			likeModel(t, p)
		}
		if len(lines) == 6 || e != api.OK && at.Line < len(lines) {
			return
		}
		for _, l := range kinds {
			grow(append(slices.Clone(lines), l))
		}
	}
	grow(nil)
	// 1, 2, 6, 23, 97, 432 and 2003 lists with none to six lines, counted by the grammar of blocks.
	if count != 2564 {
		t.Errorf("%d functions", count)
	}
}

// P1: with any arguments all functions end without a panic.
func TestAnyArguments(t *testing.T) {
	r := rand.New(rand.NewPCG(1, 9))
	for range 2000 {
		c := randomCode(r)
		for fun := -1; fun < 4; fun++ {
			for n := -3; n < 7; n++ {
				pc, k, ok := Pc(c, api.Place{Fun: fun, Line: n})
				if at, has := Place(c, fun, pc, k); ok && (!has || at != api.Place{Fun: fun, Line: n}) {
					t.Fatalf("%+v: the home of %d in %d is %d, %d", c, n, fun, pc, k)
				}
				Catch(c, fun, n, r.IntN(2) == 0)
				Place(c, fun, n, r.IntN(6)-2)
			}
		}
		if !Equal(c, c) || Text(c) != Text(c) {
			t.Fatalf("%+v is not equal to itself", c)
		}
	}
}

// randomCode returns a code that is that of no program.
func randomCode(r *rand.Rand) api.Code {
	numbers := func() []int {
		var list []int
		for range r.IntN(5) {
			list = append(list, r.IntN(8)-2)
		}
		return list
	}
	c := api.Code{Names: slices.Repeat([]string{"f"}, r.IntN(3))}
	for range r.IntN(3) {
		f := api.CodeFunc{Params: r.IntN(4) - 1, Slots: r.IntN(4) - 1}
		for range r.IntN(4) {
			f.Ins = append(f.Ins, api.Instr{Op: r.IntN(110) - 1, A: r.IntN(4) - 2, Args: numbers(), K: api.Value{Kind: r.IntN(9) - 1, N: r.IntN(3) - 1}, Lines: numbers()})
		}
		for range r.IntN(4) {
			f.Handlers = append(f.Handlers, api.Handler{From: r.IntN(6) - 1, To: r.IntN(6) - 1, Target: r.IntN(9) - 3, Finally: r.IntN(2) == 0})
		}
		c.Funcs = append(c.Funcs, f)
	}
	return c
}

// P1: with any program and any Info Compile ends without a panic, and returns the error of check.Check, or ErrArg for another Info.
func TestAnyPrograms(t *testing.T) {
	known := info(t, parsed(t, sample))
	infos := []api.Info{{}, known, {Slots: [][]string{nil}, Ends: [][]int{{5, -7, 0}}, Parent: [][]int{{0, 1, 2}}}}
	programs := []api.Program{{}, {Classes: make([]api.Class, 1000), Funcs: make([]api.Func, 1000)}, {Funcs: []api.Func{{Name: "main", Lines: make([]api.Line, 100000)}}}}
	for op := -1; op <= api.BLeave; op++ {
		try, while, end := api.Line{Op: api.OpTry}, api.Line{Op: api.OpWhile, A: "a"}, api.Line{Op: api.OpEnd}
		for _, lines := range [][]api.Line{
			{{Op: op}}, {{Op: op, A: "a"}, {Op: op}}, {try, {Op: op, A: "a"}, end}, {try, {Op: op, A: "a"}, {Op: api.OpFinally}, end},
			{while, {Op: op, A: "a", B: "b"}, end}, {while, {Op: op, A: "a", B: "b", C: "c"}, end}, {while, {Op: op, A: "a", Name: "main"}, end},
		} {
			programs = append(programs, api.Program{Funcs: []api.Func{{Name: "main", Lines: lines}}})
		}
	}
	accepted := 0
	for _, p := range programs {
		own, _, e := check.Check(p)
		for _, i := range infos {
			if e != api.OK {
				refuses(t, "refused", p, i, e)
			} else {
				refuses(t, "another Info", p, i, api.ErrArg)
			}
		}
		if e == api.OK {
			accepted++
			likeModel(t, p)
		} else {
			refuses(t, "refused, with what Check returns", p, own, e)
		}
	}
	if accepted < 20 {
		t.Errorf("%d programs are accepted", accepted)
	}
}

// R5: a code that is far beyond all limits.
func TestLargeCode(t *testing.T) {
	const many = 100000
	f := api.CodeFunc{Ins: make([]api.Instr, many), Handlers: make([]api.Handler, many)}
	lines := make([]int, many)
	for n := range many {
		lines[n] = n + 5
		f.Ins[n] = api.Instr{Op: n, Lines: []int{n + 3*many}}
		f.Handlers[n] = api.Handler{From: n, To: n + 1, Finally: n%2 == 0}
	}
	f.Ins[7].Lines = lines
	c := api.Code{Names: make([]string, many), Funcs: slices.Repeat([]api.CodeFunc{f}, 3)}
	if pc, k, ok := Pc(c, api.Place{Fun: 2, Line: many + 4}); pc != 7 || k != many-1 || !ok {
		t.Errorf("Pc = %d, %d, %t", pc, k, ok)
	}
	if at, ok := Place(c, 1, many, 0); at != (api.Place{Fun: 1, Line: 4 * many}) || !ok {
		t.Errorf("Place = %v, %t", at, ok)
	}
	if h, ok := Catch(c, 0, many-2, true); h.From != many-2 || !ok {
		t.Errorf("Catch = %+v, %t", h, ok)
	}
	if got := strings.Count(Text(c), "\n"); got != 3+6*many || !Equal(c, c) {
		t.Errorf("%d lines of text", got)
	}
}
