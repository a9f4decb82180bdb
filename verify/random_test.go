package verify

import (
	"math/rand/v2"
	"slices"
	"testing"

	"facsimile/api"
	"facsimile/check"
	"facsimile/code"
	"facsimile/lang"
)

// like checks Check of a code against the model, and returns the error.
func like(t *testing.T, p api.Program, i api.Info, c api.Code) api.Errno {
	t.Helper()
	at, e := Check(p, i, c)
	if wantAt, want := verdict(p, i, c); at != wantAt || e != want {
		t.Fatalf("error %d at %v, want %d at %v, for\n%s%s", e, at, want, wantAt, lang.Print(p), code.Text(c))
	}
	return e
}

// P10.3: Check accepts what code.Compile returns, and other codes that do the same; in all of them each line is charged where control arrives at it.
func TestAcceptedCodes(t *testing.T) {
	differ := 0
	for seed := range uint64(300) {
		r := rand.New(rand.NewPCG(3, seed))
		p := randomProgram(t, seed)
		i, right := info(t, p), compiled(t, p)
		for turn := range 4 {
			c := cloned(right)
			if turn > 0 {
				for fun := range c.Funcs {
					c.Funcs[fun] = varied(r, c.Funcs[fun])
				}
			}
			if e := like(t, p, i, c); e != api.OK {
				t.Fatalf("error %d of a code that is right, for\n%s%s", e, lang.Print(p), code.Text(c))
			}
			if !code.Equal(c, right) {
				differ++
			}
			for fun := range c.Funcs {
				walk(t, r, p, i, c, fun)
			}
		}
	}
	if differ < 800 {
		t.Errorf("only %d codes are others", differ)
	}
}

// walker is on some way of control through a function of a code, and through the lines of the source.
type walker struct {
	*rand.Rand
	*testing.T
	program api.Program
	info    api.Info
	code    api.Code
	at      api.Place
	pc      int
}

// walk follows ways of control through a function of a code that is accepted.
func walk(t *testing.T, r *rand.Rand, p api.Program, i api.Info, c api.Code, fun int) {
	t.Helper()
	for range 5 {
		at := api.Place{Fun: fun}
		pc, k, ok := code.Pc(c, at)
		if !ok {
			t.Fatalf("no home of the first line")
		}
		w := walker{r, t, p, i, c, at, pc}
		for steps := 0; steps < 60 && w.step(k); steps++ {
			k = 0
		}
	}
}

// step goes through an instruction, from an index of its Lines, and reports whether control goes on in the function.
func (w *walker) step(k int) bool {
	w.Helper()
	all, lines := w.code.Funcs[w.at.Fun].Ins, w.program.Funcs[w.at.Fun].Lines
	if w.pc == len(all) || w.at.Line == len(lines) {
		if w.pc != len(all) || w.at.Line != len(lines) {
			w.Fatalf("%v at the instruction %d of %d", w.at, w.pc, len(all))
		}
		return false
	}
	ins := all[w.pc]
	for ; ; k++ {
		if k >= len(ins.Lines) || ins.Lines[k] != w.at.Line {
			w.Fatalf("the line %v is not charged, but %v from %d", w.at, ins.Lines, k)
		}
		if k == len(ins.Lines)-1 {
			break
		}
		w.at.Line = check.Next(w.program, w.info, w.at)
	}
	op := lines[w.at.Line].Op
	completes := ins.Op == api.BLeave
	switch way := w.IntN(4); {
	case (check.Throws(op) || completes) && way == 0:
		target, slot, finally, ok := check.Catch(w.program, w.info, w.at)
		return w.leave(false, target, slot, finally, ok)
	case op == api.OpReturn || completes && way == 1:
		target, ok := check.Finally(w.program, w.info, w.at)
		return w.leave(true, target, -1, true, ok)
	case op == api.OpThrow:
		return false
	case ins.Op == api.BFalse && way == 1:
		w.at.Line, w.pc = check.Skip(w.program, w.info, w.at), ins.A
	default:
		w.at.Line = check.Next(w.program, w.info, w.at)
		w.pc++
		if ins.Op == api.BJump {
			w.pc = ins.A
		}
	}
	return true
}

// leave goes where an exception or a return goes, in the code and in the source.
func (w *walker) leave(returns bool, target, slot int, finally, ok bool) bool {
	w.Helper()
	h, has := code.Catch(w.code, w.at.Fun, w.pc, returns)
	if has != ok || ok && (h.Slot != slot || h.Finally != finally) {
		w.Fatalf("%v is left by %+v, %t", w.at, h, has)
	}
	w.at.Line, w.pc = target, h.Target
	return ok
}

// P10.2: right codes with one or more things changed, against the model.
func TestChangedCodes(t *testing.T) {
	count := map[api.Errno]int{}
	for seed := range uint64(300) {
		r := rand.New(rand.NewPCG(4, seed))
		p := randomProgram(t, seed)
		i, right := info(t, p), compiled(t, p)
		for range 20 {
			c := cloned(right)
			fun := r.IntN(len(c.Funcs))
			if r.IntN(2) == 0 {
				c.Funcs[fun] = varied(r, c.Funcs[fun])
			}
			for range 1 + r.IntN(2) {
				change(r, &c.Funcs[fun], len(p.Funcs[fun].Lines))
			}
			count[like(t, p, i, c)]++
		}
	}
	for _, e := range []api.Errno{api.OK, api.ErrCharge, api.ErrCode, api.ErrSlot, api.ErrTarget, api.ErrCatch} {
		if count[e] < 500 {
			t.Errorf("only %d codes give the error %d", count[e], e)
		}
	}
}

// change makes a random change.
func change(r *rand.Rand, f *api.CodeFunc, lines int) {
	if len(f.Ins) == 0 {
		return
	}
	n := r.IntN(len(f.Ins))
	switch r.IntN(7) {
	case 0:
		changeList(r, f, n)
	case 1, 2:
		changeHandlers(r, f)
	case 3:
		f.Ins[n].Lines = changedNumbers(r, f.Ins[n].Lines, lines)
	case 4:
		f.Ins[n].Args = changedNumbers(r, f.Ins[n].Args, 5)
	default:
		changeInstruction(r, &f.Ins[n], len(f.Ins))
	}
}

// changeList removes an instruction, adds one, or swaps two.
func changeList(r *rand.Rand, f *api.CodeFunc, n int) {
	m := r.IntN(len(f.Ins))
	switch r.IntN(6) {
	case 0:
		f.Ins = slices.Delete(f.Ins, n, n+1)
	case 1:
		insert(f, n, f.Ins[m])
	case 2:
		f.Ins = append(f.Ins, f.Ins[m])
	case 3:
		f.Ins[n], f.Ins[m] = f.Ins[m], f.Ins[n]
	case 4:
		insert(f, n, junk(r.IntN(12)-1))
	default:
		f.Params, f.Slots = f.Params+r.IntN(2), f.Slots-r.IntN(2)
	}
}

// changedNumbers returns a list with one number changed, more, or less.
func changedNumbers(r *rand.Rand, list []int, limit int) []int {
	list = slices.Clone(list)
	n := r.IntN(len(list) + 1)
	switch number := r.IntN(limit+4) - 2; {
	case r.IntN(8) == 0:
		return nil
	case n == len(list) || r.IntN(3) == 0:
		list = slices.Insert(list, n, number)
	case r.IntN(2) == 0:
		list = slices.Delete(list, n, n+1)
	default:
		list[n] = number
	}
	return list
}

func changeHandlers(r *rand.Rand, f *api.CodeFunc) {
	number := func() int { return r.IntN(len(f.Ins)+5) - 2 }
	if len(f.Handlers) == 0 || r.IntN(6) == 0 {
		h := api.Handler{From: number(), To: number(), Target: number(), Slot: r.IntN(4) - 1, Finally: r.IntN(2) == 0}
		f.Handlers = slices.Insert(f.Handlers, r.IntN(len(f.Handlers)+1), h)
		return
	}
	n, m := r.IntN(len(f.Handlers)), r.IntN(len(f.Handlers))
	h := &f.Handlers[n]
	switch r.IntN(7) {
	case 0:
		f.Handlers = slices.Delete(f.Handlers, n, n+1)
	case 1:
		f.Handlers[n], f.Handlers[m] = f.Handlers[m], f.Handlers[n]
	case 2:
		h.From = number()
	case 3:
		h.To = number()
	case 4:
		h.Target = number()
	case 5:
		h.Slot = r.IntN(7) - 2
	default:
		h.Finally = !h.Finally
	}
}

func changeInstruction(r *rand.Rand, ins *api.Instr, size int) {
	switch number := r.IntN(size+5) - 2; r.IntN(6) {
	case 0:
		ops := []int{r.IntN(44), api.BNop, api.BJump, api.BFalse, api.BEnter, api.BLeave, api.OpThrow, api.OpReturn}
		ins.Op = ops[r.IntN(len(ops))]
	case 1:
		ins.A = number
	case 2:
		ins.B = number
	case 3:
		ins.C = r.IntN(4) - 1
	case 4:
		ins.K = []api.Value{{}, {Kind: api.Nil}, {Kind: api.Int}, {Kind: api.Int, N: 1}, {Kind: api.Str, S: "f"}, {Kind: api.Str, S: "it"}, {Kind: api.Fun, N: r.IntN(3)}}[r.IntN(7)]
	default:
		// It jumps to the instruction that it goes on to.
		*ins = jump(number, ins.Lines...)
	}
}

// P10.3: Check accepts what code.Compile makes of all functions of up to five lines with blocks, and lines that go on, throw and return; one by one, other instructions for them are as in the model.
func TestAllShortFunctions(t *testing.T) {
	kinds := []api.Line{
		{Op: api.OpYield}, {Op: api.OpReturn, A: "a"}, {Op: api.OpIf, A: "a"}, {Op: api.OpElse}, {Op: api.OpWhile, A: "a"},
		{Op: api.OpTry}, {Op: api.OpCatch, A: "e"}, {Op: api.OpFinally}, {Op: api.OpEnd},
	}
	r := rand.New(rand.NewPCG(5, 5))
	p := api.Program{Funcs: []api.Func{{Name: "main"}}}
	count := 0
	var grow func(lines []api.Line)
	grow = func(lines []api.Line) {
		p.Funcs[0].Lines = lines
		i, at, e := check.Check(p)
		if e == api.OK {
			count++
			right := compiled(t, p)
			if e := like(t, p, i, right); e != api.OK {
				t.Fatalf("error %d of what Compile returns for %q", e, lang.Print(p))
			}
			for range 20 {
				c := cloned(right)
				change(r, &c.Funcs[0], len(lines))
				like(t, p, i, c)
			}
		}
		if len(lines) == 5 || e != api.OK && at.Line < len(lines) {
			return
		}
		for _, l := range kinds {
			grow(append(slices.Clone(lines), l))
		}
	}
	grow(nil)
	// 1, 2, 6, 23, 97 and 432 lists with none to five lines, counted by the grammar of blocks.
	if count != 561 {
		t.Errorf("%d functions", count)
	}
}
