package verify

import (
	"math/rand/v2"
	"slices"
	"strings"
	"testing"

	"facsimile/api"
)

// maker makes lines of a function whose blocks fit.
type maker struct {
	*rand.Rand
	lines []string
}

// simple are lines that are no blocks; each ? stands for some variable. Among them are many that do not throw, and many that end.
const simple = "? = 1;? = 'it';? = ?;? = neg ?;? = ? + ?;? = ? . ?;? = new P;? = new Q;? = ?.f;?.g = ?;? = ?[?];?[?] = ?;? = call g;? = call h ? ?;? = bind h ?;" +
	"? = apply ? ?;? = send ? m ?;final ? g;print ?;? = input;spawn 3 h ? ?;spawn 0 main;yield;yield;yield;throw ?;throw ?;return ?;return ?;return ?"

func (m *maker) put(line string) {
	for strings.Contains(line, "?") {
		line = strings.Replace(line, "?", string(rune('a'+m.IntN(5))), 1)
	}
	m.lines = append(m.lines, line)
}

// part adds some lines and blocks.
func (m *maker) part(depth int) {
	for range m.IntN(4) {
		if depth == 0 || len(m.lines) > 25 || m.IntN(3) == 0 {
			all := strings.Split(simple, ";")
			m.put(all[m.IntN(len(all))])
		} else {
			m.block(depth - 1)
		}
	}
}

// block adds a block, with blocks in it up to a depth.
func (m *maker) block(depth int) {
	clauses := [][]string{
		{"while ?"}, {"if ?"}, {"if ?", "else"},
		{"try", "catch ?"}, {"try", "finally"}, {"try", "catch ?", "finally"}, {"try", "catch ?", "finally"},
	}
	for _, clause := range clauses[m.IntN(len(clauses))] {
		m.put(clause)
		m.part(depth)
	}
	m.put("end")
}

// randomProgram returns a program that is right, the same one for each seed.
func randomProgram(t *testing.T, seed uint64) api.Program {
	t.Helper()
	r := rand.New(rand.NewPCG(10, seed))
	text := "class P f\nmethod m h\nclass Q\n"
	for _, head := range []string{"h c e", "main", "g"} {
		m := maker{Rand: r}
		for len(m.lines) < 2 || len(m.lines) > api.MaxLines-1 {
			m.lines = nil
			for range 1 + r.IntN(3) {
				m.block(r.IntN(4))
			}
		}
		if r.IntN(2) == 0 {
			m.put("return ?")
		}
		text += "func " + head + "\n" + strings.Join(m.lines, "\n") + "\nendfunc\n"
	}
	return parsed(t, text)
}

// node is an instruction of a function that is rebuilt, with what it leads to: where it jumps, and the targets of its handlers. Nil is the end of the function.
type node struct {
	ins      api.Instr
	to       *node
	handlers []api.Handler
	targets  []*node
}

// nodes returns the instructions of a function of a right code.
func nodes(f api.CodeFunc) []*node {
	list := make([]*node, len(f.Ins)+1)
	for n := range f.Ins {
		list[n] = &node{ins: f.Ins[n]}
	}
	for n, ins := range f.Ins {
		if jumps(ins.Op) {
			list[n].to = list[ins.A]
		}
		for _, h := range handlersOf(f, n) {
			list[n].handlers = append(list[n].handlers, h)
			list[n].targets = append(list[n].targets, list[h.Target])
		}
	}
	return list[:len(f.Ins)]
}

// functionOf returns a function with these instructions.
func functionOf(f api.CodeFunc, list []*node) api.CodeFunc {
	number := map[*node]int{nil: len(list)}
	for n, x := range list {
		number[x] = n
	}
	built := api.CodeFunc{Params: f.Params, Slots: f.Slots}
	for n, x := range list {
		ins := x.ins
		if jumps(ins.Op) {
			ins.A = number[x.to]
		}
		built.Ins = append(built.Ins, ins)
		for k, h := range x.handlers {
			h.From, h.To, h.Target = n, n+1, number[x.targets[k]]
			built.Handlers = append(built.Handlers, h)
		}
	}
	return built
}

// split makes a BNop of the first lines of some instructions.
func split(r *rand.Rand, list []*node) []*node {
	var all []*node
	for _, x := range list {
		all = append(all, x)
		if size := len(x.ins.Lines); size > 1 && r.IntN(2) == 0 {
			k := 1 + r.IntN(size-1)
			rest := *x
			rest.ins.Lines = x.ins.Lines[k:]
			*x = node{ins: instr(api.BNop, x.ins.Lines[:k]...)}
			all = append(all, &rest)
		}
	}
	return all
}

// runs cuts instructions behind those that do not go on at the next one; the last run may do that.
func runs(list []*node) [][]*node {
	var all [][]*node
	var run []*node
	for n, x := range list {
		run = append(run, x)
		if !falls(x.ins.Op) || n == len(list)-1 {
			all, run = append(all, run), nil
		}
	}
	return all
}

// copied returns a copy of a run, to which some of what led to the run leads from now on.
func copied(r *rand.Rand, list, run []*node) []*node {
	twin := map[*node]*node{}
	var all []*node
	for _, x := range run {
		c := *x
		c.handlers, c.targets = slices.Clone(x.handlers), slices.Clone(x.targets)
		twin[x] = &c
		all = append(all, &c)
	}
	for _, x := range slices.Concat(list, all) {
		if twin[x.to] != nil && r.IntN(2) == 0 {
			x.to = twin[x.to]
		}
		for k, to := range x.targets {
			if twin[to] != nil && r.IntN(2) == 0 {
				x.targets[k] = twin[to]
			}
		}
	}
	return all
}

// varied returns another function that does the same: instructions are split, there twice, in another order, with junk between them, or jump to the next one.
func varied(r *rand.Rand, f api.CodeFunc) api.CodeFunc {
	list := split(r, nodes(f))
	all := runs(list)
	tail := all[len(all)-1]
	if !falls(tail[len(tail)-1].ins.Op) {
		tail = nil
	} else {
		all = all[:len(all)-1]
	}
	for n := range all {
		if r.IntN(3) == 0 {
			all = append(all, copied(r, list, all[n]))
		}
	}
	if r.IntN(3) == 0 {
		r.Shuffle(len(all), func(a, b int) { all[a], all[b] = all[b], all[a] })
	}
	// The first instruction is always reached.
	if len(all) > 0 && r.IntN(2) == 0 {
		all = slices.Insert(all, 1+r.IntN(len(all)), []*node{{ins: junk(1000 + r.IntN(3))}})
	}
	list = nil
	for _, run := range append(all, tail) {
		list = append(list, run...)
	}
	for n, x := range list {
		if x.ins.Op == api.BNop && r.IntN(2) == 0 {
			x.ins.Op = api.BJump
			if n+1 < len(list) {
				x.to = list[n+1]
			}
		}
	}
	return functionOf(f, list)
}
