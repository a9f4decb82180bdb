package interp

import (
	"math/rand/v2"
	"slices"
	"testing"

	"facsimile/api"
	"facsimile/code"
	"facsimile/lang"
	"facsimile/verify"
)

// cloned returns a copy of a code whose functions can be changed.
func cloned(c api.Code) api.Code { return copyCode(c) }

// node is an instruction of a function that is rebuilt, with what it leads to: where it jumps, and the targets of its handlers. Nil is the end of the function.
type node struct {
	ins      api.Instr
	to       *node
	handlers []api.Handler
	targets  []*node
}

func jumps(op int) bool { return op == api.BJump || op == api.BFalse }

func falls(op int) bool { return op != api.BJump && op != api.OpThrow && op != api.OpReturn }

// nodes returns the instructions of a function of a right code.
func nodes(f api.CodeFunc) []*node {
	list := make([]*node, len(f.Ins)+1)
	for n := range f.Ins {
		list[n] = &node{ins: f.Ins[n]}
	}
	for n, ins := range f.Ins {
		if jumps(ins.Op) {
			list[n].to = list[ins.A]
		}
		for _, h := range f.Handlers {
			if h.From <= n && n < h.To {
				list[n].handlers = append(list[n].handlers, h)
				list[n].targets = append(list[n].targets, list[h.Target])
			}
		}
	}
	return list[:len(f.Ins)]
}

// functionOf returns a function with these instructions.
func functionOf(f api.CodeFunc, list []*node) api.CodeFunc {
	number := map[*node]int{nil: len(list)}
	for n, x := range list {
		number[x] = n
	}
	built := api.CodeFunc{Params: f.Params, Slots: f.Slots}
	for n, x := range list {
		ins := x.ins
		if jumps(ins.Op) {
			ins.A = number[x.to]
		}
		built.Ins = append(built.Ins, ins)
		for k, h := range x.handlers {
			h.From, h.To, h.Target = n, n+1, number[x.targets[k]]
			built.Handlers = append(built.Handlers, h)
		}
	}
	return built
}

func instr(op int, lines ...int) api.Instr {
	return api.Instr{Op: op, A: -1, B: -1, C: -1, Lines: lines}
}

// junk returns an instruction that is that of no line.
func junk(lines ...int) api.Instr {
	return api.Instr{Op: -7, A: 99, B: -99, C: 1 << 62, Args: []int{5, -5}, K: api.Value{Kind: 77, N: 7, S: "junk"}, Lines: lines}
}

// split makes a BNop of the first lines of some instructions.
func split(r *rand.Rand, list []*node) []*node {
	var all []*node
	for _, x := range list {
		all = append(all, x)
		if size := len(x.ins.Lines); size > 1 && r.IntN(2) == 0 {
			k := 1 + r.IntN(size-1)
			rest := *x
			rest.ins.Lines = x.ins.Lines[k:]
			*x = node{ins: instr(api.BNop, x.ins.Lines[:k]...)}
			all = append(all, &rest)
		}
	}
	return all
}

// joined gives the lines of some BNops to the instructions behind them, if nothing else leads there.
func joined(r *rand.Rand, list []*node) []*node {
	led := map[*node]bool{}
	for _, x := range list {
		led[x.to] = true
		for _, to := range x.targets {
			led[to] = true
		}
	}
	var all []*node
	for n, x := range list {
		if n > 0 && list[n-1].ins.Op == api.BNop && !led[x] && all[len(all)-1] == list[n-1] && r.IntN(2) == 0 {
			before := all[len(all)-1]
			lines := slices.Concat(before.ins.Lines, x.ins.Lines)
			*before = *x
			before.ins.Lines = lines
			continue
		}
		all = append(all, x)
	}
	return all
}

// runs cuts instructions behind those that do not go on at the next one; the last run may do that.
func runs(list []*node) [][]*node {
	var all [][]*node
	var run []*node
	for n, x := range list {
		run = append(run, x)
		if !falls(x.ins.Op) || n == len(list)-1 {
			all, run = append(all, run), nil
		}
	}
	return all
}

// twins returns copies of nodes.
func twins(list []*node) []*node {
	var all []*node
	for _, x := range list {
		c := *x
		c.handlers, c.targets = slices.Clone(x.handlers), slices.Clone(x.targets)
		all = append(all, &c)
	}
	return all
}

// copied returns a copy of a run, to which some of what led to the run leads from now on.
func copied(r *rand.Rand, list, run []*node) []*node {
	all := twins(run)
	twin := map[*node]*node{}
	for n, x := range run {
		twin[x] = all[n]
	}
	for _, x := range slices.Concat(list, all) {
		if twin[x.to] != nil && r.IntN(2) == 0 {
			x.to = twin[x.to]
		}
		for k, to := range x.targets {
			if twin[to] != nil && r.IntN(2) == 0 {
				x.targets[k] = twin[to]
			}
		}
	}
	return all
}

// unrolled returns a run that ends by a jump back to a while in it with two rounds of this loop; the jump between them becomes a part of the second while.
func unrolled(run []*node) []*node {
	back := run[len(run)-1]
	first := slices.Index(run, back.to)
	if back.ins.Op != api.BJump || first < 0 || run[first].ins.Op != api.BFalse {
		return run
	}
	second := twins(run[first:])
	lines := slices.Concat(back.ins.Lines, run[first].ins.Lines)
	*back = *second[0]
	back.ins.Lines = lines
	return slices.Concat(run, second[1:])
}

// varied returns another function that does the same: instructions are split, joined, there twice, in another order, with junk between them, or jump to the next one; loops are unrolled.
func varied(r *rand.Rand, f api.CodeFunc) api.CodeFunc {
	list := joined(r, split(r, nodes(f)))
	all := runs(list)
	var tail []*node
	if n := len(all) - 1; n >= 0 && falls(all[n][len(all[n])-1].ins.Op) {
		all, tail = all[:n], all[n]
	}
	for n := range all {
		if r.IntN(3) == 0 {
			all = append(all, copied(r, list, all[n]))
		}
		if r.IntN(2) == 0 {
			all[n] = unrolled(all[n])
		}
	}
	if r.IntN(3) == 0 {
		r.Shuffle(len(all), func(a, b int) { all[a], all[b] = all[b], all[a] })
	}
	// The first instruction is always reached.
	if len(all) > 0 && r.IntN(2) == 0 {
		all = slices.Insert(all, 1+r.IntN(len(all)), []*node{{ins: junk(1000 + r.IntN(3))}})
	}
	list = slices.Concat(append(all, tail)...)
	for n, x := range list {
		if x.ins.Op == api.BNop && r.IntN(2) == 0 {
			x.ins.Op = api.BJump
			if n+1 < len(list) {
				x.to = list[n+1]
			}
		}
	}
	return functionOf(f, list)
}

// variedCode returns another code that does the same.
func variedCode(t *testing.T, r *rand.Rand, p api.Program) api.Code {
	t.Helper()
	c := cloned(compiled(t, p))
	for fun := range c.Funcs {
		c.Funcs[fun] = varied(r, c.Funcs[fun])
	}
	if at, e := verify.Check(p, info(t, p), c); e != api.OK {
		t.Fatalf("error %d at %v of a code that is right, for\n%s%s", e, at, lang.Print(p), code.Text(c))
	}
	return c
}

// Varied codes are others, in all ways.
func TestVariedCodes(t *testing.T) {
	met := map[string]int{}
	for seed := range uint64(60) {
		p, _, r := random(t, seed)
		right := compiled(t, p)
		for range 3 {
			c := variedCode(t, r, p)
			if !code.Equal(c, right) {
				met["others"]++
			}
			for fun, f := range c.Funcs {
				note(met, f, p.Funcs[fun].Lines)
			}
		}
	}
	for _, what := range []string{"others", "junk", "twice", "while after end", "begins elsewhere", "jump to the next", "three lines"} {
		if met[what] < 20 {
			t.Errorf("%s: only %d times", what, met[what])
		}
	}
}

// note counts what there is in a function.
func note(met map[string]int, f api.CodeFunc, lines []api.Line) {
	seen := map[int]bool{}
	for n, ins := range f.Ins {
		line := ins.Lines[len(ins.Lines)-1]
		if seen[line] {
			met["twice"]++
		}
		seen[line] = true
		switch {
		case ins.Op == -7:
			met["junk"]++
			continue
		case ins.Op == api.BFalse && lines[line].Op == api.OpWhile && ins.Lines[0] > line:
			met["while after end"]++
		case ins.Op == api.BJump && ins.A == n+1:
			met["jump to the next"]++
		}
		if len(ins.Lines) > 2 {
			met["three lines"]++
		}
		if n == 0 && ins.Lines[0] > 0 {
			met["begins elsewhere"]++
		}
	}
}
