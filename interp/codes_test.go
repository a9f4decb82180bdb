package interp

import (
	"math/rand/v2"
	"testing"

	"facsimile/api"
	"facsimile/code"
	"facsimile/lang"
	"facsimile/source"
	"facsimile/verify"
)

// changed returns the code of a program after a change, which verify.Check has to accept.
func changed(t *testing.T, p api.Program, change func(f *api.CodeFunc)) api.Code {
	t.Helper()
	c := cloned(compiled(t, p))
	change(&c.Funcs[0])
	if at, e := verify.Check(p, info(t, p), c); e != api.OK {
		t.Fatalf("the test has a wrong code: error %d at %v of\n%s", e, at, code.Text(c))
	}
	return c
}

// imageAt returns an image with one thread, which is at a line. Its variables have these values, over and over, as far as they are live; what is pending is of all kinds in turn.
func imageAt(t *testing.T, p api.Program, w api.World, at api.Place, vars ...api.Value) api.Image {
	t.Helper()
	i := info(t, p)
	values := make([]api.Value, len(i.Slots[at.Fun]))
	image := api.Image{Born: 1, Fuel: w.Fuel, Used: make([]int, len(w.Fuel))}
	image.Threads = []api.Thread{{Frames: []api.Frame{{Fun: at.Fun, Line: at.Line, Vars: values}}}}
	kinds := []api.Pending{{}, {Kind: api.PendThrow, Value: str("thrown"), Place: at}, {Kind: api.PendReturn, Value: integer(7)}}
	for top := &image.Threads[0].Frames[0]; !source.Right(p, i, w, image); {
		top.Pend = append(top.Pend, kinds[(at.Line+len(top.Pend))%3])
		if len(top.Pend) > 5 {
			t.Fatalf("there is no image at %v of %q", at, lang.Print(p))
		}
	}
	for slot := range values {
		values[slot] = vars[slot%len(vars)]
		if !source.Right(p, i, w, image) {
			values[slot] = api.Value{}
		}
	}
	return image
}

// fromAll checks that a machine goes on like the source from the beginning, and from each line with these values of variables.
func fromAll(t *testing.T, p api.Program, c api.Code, vars ...api.Value) {
	t.Helper()
	w := rich(2)
	w.Fuel = []int{40, 40}
	loadedPair(t, p, c, w, source.Begin(p, w)).run(80)
	for fun, f := range p.Funcs {
		for line := range f.Lines {
			loadedPair(t, p, c, w, imageAt(t, p, w, place(fun, line), vars...)).run(80)
		}
	}
}

// P13.2: codes that verify.Check accepts though some of their instructions are those of no lines: no line that is reached leads to these.
func TestCodesWithJunk(t *testing.T) {
	for what, x := range map[string]struct {
		lines  string
		change func(f *api.CodeFunc)
	}{
		"the first instruction is that of another line": {"return a; yield; return a", func(f *api.CodeFunc) {
			f.Ins = []api.Instr{f.Ins[2], f.Ins[0], f.Ins[1], junk(2)}
		}},
		"a line that is not reached leads to junk": {"return a; yield; return a", func(f *api.CodeFunc) {
			f.Ins = []api.Instr{f.Ins[0], f.Ins[2], f.Ins[1], junk(2)}
		}},
		"a line that is not reached leads to junk at the end": {"return a; yield", func(f *api.CodeFunc) {
			f.Ins = append(f.Ins, junk(2, 7, 7))
		}},
		"a condition leads to junk": {"return a; if b; print a; end; print b; return a", func(f *api.CodeFunc) {
			f.Ins[1].A = len(f.Ins)
			f.Ins = append(f.Ins, junk(4))
		}},
		"a loop that is not reached goes back to junk": {"return a; while b; print a; end; return a", func(f *api.CodeFunc) {
			f.Ins[3].A = len(f.Ins)
			f.Ins = append(f.Ins, junk(1))
		}},
		"an exception leads to junk": {"return a; try; print b; catch e; print e; end; return a", func(f *api.CodeFunc) {
			f.Handlers[0].Target = len(f.Ins)
			f.Ins = append(f.Ins, junk(4))
		}},
		"a finally part is junk": {"return a; try; return b; finally; print a; end; return a", func(f *api.CodeFunc) {
			f.Handlers[0].Target = len(f.Ins)
			f.Ins = append(f.Ins, junk(4, 4))
		}},
		"junk before and behind": {"yield; return a", func(f *api.CodeFunc) {
			f.Ins = append(f.Ins, junk(9), junk(), junk(-1), junk(0, 1))
		}},
		"a handler for the end, and for more than there is": {"yield; print b; print a", func(f *api.CodeFunc) {
			f.Handlers = []api.Handler{{From: 3, To: 1 << 62, Target: 0, Slot: -1, Finally: true}, {From: 3, To: 4, Target: 99, Slot: 99}}
		}},
		"a handler for a line that does not throw": {"yield; print b; c = 1; print c", func(f *api.CodeFunc) {
			f.Handlers = []api.Handler{{From: 0, To: 1, Target: 1, Slot: 77}, {From: -5, To: 1, Target: 1 << 62, Finally: true}, {From: 2, To: 3, Target: 3}}
		}},
		"handlers behind those that are found": {"try; print b; catch e; print e; end; print a", func(f *api.CodeFunc) {
			f.Handlers = append(f.Handlers, api.Handler{From: -9, To: 1, Target: 2, Slot: 88}, api.Handler{From: 0, To: 1, Target: 0, Slot: -1, Finally: true})
		}},
	} {
		p := parsed(t, "func main; "+x.lines+"; endfunc")
		c := changed(t, p, x.change)
		for _, b := range []api.Value{{Kind: api.Bool, N: 1}, {Kind: api.Bool}, integer(3), {}} {
			t.Run(what, func(t *testing.T) { fromAll(t, p, c, integer(8), b) })
			t.Run(what, func(t *testing.T) { fromAll(t, p, c, b, integer(8)) })
		}
	}
}

// shaken returns a code with some random changes, most of which verify.Check refuses.
func shaken(r *rand.Rand, c api.Code) api.Code {
	c = cloned(c)
	f := &c.Funcs[r.IntN(len(c.Funcs))]
	number := func() int { return r.IntN(len(f.Ins)+5) - 2 }
	for range 1 + r.IntN(3) {
		if len(f.Ins) == 0 {
			return c
		}
		ins := &f.Ins[r.IntN(len(f.Ins))]
		switch r.IntN(9) {
		case 0:
			ins.A = number()
		case 1:
			f.Ins = append(f.Ins, junk(number(), number()))
		case 2:
			f.Ins = append(f.Ins, junk(ins.Lines...))
		case 3:
			f.Ins = append(f.Ins, *ins)
		case 4:
			a, b := r.IntN(len(f.Ins)), r.IntN(len(f.Ins))
			f.Ins[a], f.Ins[b] = f.Ins[b], f.Ins[a]
		case 5:
			f.Handlers = append(f.Handlers, api.Handler{From: number(), To: number(), Target: number(), Slot: r.IntN(4) - 1, Finally: r.IntN(2) == 0})
		case 6:
			if len(f.Handlers) > 0 {
				f.Handlers[r.IntN(len(f.Handlers))].Target = number()
			}
		case 7:
			if len(f.Handlers) > 0 {
				h := &f.Handlers[r.IntN(len(f.Handlers))]
				h.From, h.To = min(h.From, number()), max(h.To, number())
			}
		case 8:
			*ins = junk(ins.Lines...)
		}
	}
	return c
}

// P13.2, P1: whatever code verify.Check accepts.
func TestShakenCodes(t *testing.T) {
	t.Parallel()
	texts := append(programs(),
		"func main; return a; yield; if b; print a; else; throw b; end; while b; print a; b = false; end; try; c = a / b; catch e; print e; finally; return a; end; return c; endfunc",
		"func main; return a; try; try; throw b; finally; print a; end; catch e; if b; yield; end; end; print a; print b; endfunc",
	)
	accepted := 0
	for n, text := range texts {
		p := parsed(t, text)
		i := info(t, p)
		r := rand.New(rand.NewPCG(17, uint64(n)))
		for range 150 {
			right := compiled(t, p)
			if r.IntN(2) == 0 {
				right = variedCode(t, r, p)
			}
			c := shaken(r, right)
			if _, e := verify.Check(p, i, c); e != api.OK || code.Equal(c, right) {
				continue
			}
			accepted++
			if len(p.Funcs[0].Lines) < 20 || accepted%8 == 0 {
				fromAll(t, p, c, api.Value{Kind: api.Bool, N: accepted % 2}, integer(1+accepted%3))
			}
		}
	}
	if accepted < 300 {
		t.Errorf("only %d codes are accepted", accepted)
	}
}
