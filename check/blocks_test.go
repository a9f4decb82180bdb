package check

import (
	"math/rand/v2"
	"slices"
	"strings"
	"testing"

	"facsimile/api"
)

// lineOf returns a right line with this operator.
func lineOf(op int) api.Line {
	switch op {
	case api.OpConst:
		return api.Line{Op: op, A: "x", Const: api.Value{Kind: api.Int, N: 1}}
	case api.OpIf, api.OpWhile, api.OpThrow, api.OpReturn, api.OpPrint:
		return api.Line{Op: op, A: "a"}
	case api.OpCatch:
		return api.Line{Op: op, A: "c"}
	}
	return api.Line{Op: op}
}

func linesOf(ops []int) []api.Line {
	var lines []api.Line
	for _, op := range ops {
		lines = append(lines, lineOf(op))
	}
	return lines
}

// textOf returns the lines in short, for messages.
func textOf(ops []int) string {
	names := map[int]string{api.OpIf: "if", api.OpElse: "else", api.OpWhile: "while", api.OpTry: "try", api.OpCatch: "catch", api.OpFinally: "finally", api.OpEnd: "end"}
	var parts []string
	for _, op := range ops {
		if names[op] == "" {
			parts = append(parts, "-")
		} else {
			parts = append(parts, names[op])
		}
	}
	return strings.Join(parts, " ")
}

// likeGrammar checks what the package says of the blocks of lines with these operators, and reports whether they fit.
func likeGrammar(t *testing.T, ops []int) bool {
	t.Helper()
	p := mainOf(linesOf(ops))
	g, wrong, ok := descend(ops)
	if !ok {
		isWrong(t, textOf(ops), p, inMain(wrong), api.ErrBlock)
		return false
	}
	i := info(t, p)
	if !slices.Equal(i.Ends[0], g.ends) || !slices.Equal(i.Parent[0], g.parent) {
		t.Errorf("%s: %v and %v, want %v and %v", textOf(ops), i.Ends[0], i.Parent[0], g.ends, g.parent)
	}
	return true
}

// P2.1: all short lists of lines that open, continue and end blocks.
func TestShortLists(t *testing.T) {
	kinds := []int{api.OpIf, api.OpElse, api.OpWhile, api.OpTry, api.OpCatch, api.OpFinally, api.OpEnd}
	var ops []int
	fit := 0
	var grow func(left int)
	grow = func(left int) {
		if likeGrammar(t, ops) {
			fit++
		}
		if left == 0 {
			return
		}
		for _, op := range kinds {
			ops = append(ops, op)
			grow(left - 1)
			ops = ops[:len(ops)-1]
		}
	}
	grow(5)
	// One without lines, and 2, 3, 9 and 30 with two to five lines.
	if fit != 45 {
		t.Errorf("%d lists fit, want 45", fit)
	}
}

// P2.1: blocks that do not fit, each with its place.
func TestBlocksThatDoNotFit(t *testing.T) {
	for _, c := range []struct {
		lines string
		at    int
	}{
		{"else", 0}, {"catch c", 0}, {"finally", 0}, {"end", 0}, {"yield; end; else", 1},
		{"if a", 1}, {"if a; else", 2}, {"while a", 1}, {"try", 1}, {"try; catch c", 2}, {"try; finally", 2}, {"if a; if a; end", 3},
		{"try; end", 1}, {"try; yield; end; end", 2}, {"if a; try; end; end", 2}, {"try; try; end; catch c; end", 2},
		{"while a; else; end", 1}, {"while a; catch c; end", 1}, {"while a; finally; end", 1},
		{"if a; catch c; end", 1}, {"if a; finally; end", 1}, {"if a; else; else; end", 2}, {"if a; else; catch c; end", 2}, {"if a; else; finally; end", 2},
		{"try; else; end", 1}, {"try; catch c; else; end", 2}, {"try; catch c; catch c; end", 2}, {"try; catch c; catch d; finally; end", 2},
		{"try; finally; catch c; end", 2}, {"try; finally; finally; end", 2}, {"try; finally; else; end", 2}, {"try; catch c; finally; catch c; end", 3},
		{"if a; end; end", 2}, {"if a; end; else", 2}, {"while a; end; end", 2}, {"try; catch c; end; finally", 3}, {"try; finally; end; end", 3},
		{"try; if a; catch c; end; end", 2}, {"if a; try; else; catch c; end; end", 2}, {"try; while a; finally; end; end", 2},
	} {
		isWrong(t, c.lines, mainOf(body(t, c.lines)), inMain(c.at), api.ErrBlock)
	}
}

// P2.1: a block does not go on in the next function.
func TestBlocksOfTwoFunctions(t *testing.T) {
	p := mainOf(body(t, "while a"))
	p.Funcs = append(p.Funcs, api.Func{Name: "f", Lines: body(t, "end")})
	isWrong(t, "no end", p, inMain(1), api.ErrBlock)
	p.Funcs[0].Lines = nil
	isWrong(t, "no block", p, api.Place{Fun: 1}, api.ErrBlock)
	p.Funcs[0].Lines = body(t, "while a; end")
	p.Funcs[1].Lines = body(t, "yield; if a; yield; end")
	want := api.Info{Slots: [][]string{{"a"}, {"a"}}, Ends: [][]int{{1, 0}, {-1, 3, -1, 1}}, Parent: [][]int{{-1, -1}, {-1, -1, 1, -1}}}
	if got := info(t, p); !sameInfo(got, want) {
		t.Errorf("Check = %v", got)
	}
}

// P2.1: a finally in a try part, in a catch part and in a finally part.
func TestFinallyInEachPart(t *testing.T) {
	const block = "try; yield; catch c; yield; finally; yield; end"
	lines := body(t, "try; "+block+"; catch d; "+block+"; finally; "+block+"; end")
	i := info(t, mainOf(lines))
	ends := []int{8, 3, -1, 5, -1, 7, -1, 1, 16, 11, -1, 13, -1, 15, -1, 9, 24, 19, -1, 21, -1, 23, -1, 17, 0}
	parent := []int{-1, 0, 1, 0, 3, 0, 5, 0, -1, 8, 9, 8, 11, 8, 13, 8, -1, 16, 17, 16, 19, 16, 21, 16, -1}
	if !slices.Equal(i.Ends[0], ends) || !slices.Equal(i.Parent[0], parent) {
		t.Errorf("Ends %v, Parent %v", i.Ends[0], i.Parent[0])
	}
}

// maker makes lists of operators whose blocks fit.
type maker struct {
	*rand.Rand
	ops []int
}

func (m *maker) put(op int) { m.ops = append(m.ops, op) }

func (m *maker) part(depth int) {
	for range m.IntN(4) {
		if depth == 0 || len(m.ops) > 40 {
			m.put([]int{api.OpConst, api.OpPrint, api.OpThrow, api.OpReturn, api.OpYield}[m.IntN(5)])
			continue
		}
		m.block(depth)
	}
}

func (m *maker) block(depth int) {
	switch m.IntN(5) {
	case 0:
		m.put(api.OpReturn)
		return
	case 1:
		m.put(api.OpIf)
		m.part(depth - 1)
		if m.IntN(2) == 0 {
			m.put(api.OpElse)
			m.part(depth - 1)
		}
	case 2:
		m.put(api.OpWhile)
		m.part(depth - 1)
	default:
		m.put(api.OpTry)
		m.part(depth - 1)
		has := 1 + m.IntN(3)
		if has&1 != 0 {
			m.put(api.OpCatch)
			m.part(depth - 1)
		}
		if has&2 != 0 {
			m.put(api.OpFinally)
			m.part(depth - 1)
		}
	}
	m.put(api.OpEnd)
}

// made returns some lists of operators whose blocks fit, the same in each run.
func made(count int) [][]int {
	var lists [][]int
	for n := 0; len(lists) < count; n++ {
		m := maker{Rand: rand.New(rand.NewPCG(2, uint64(n)))}
		for range 1 + m.IntN(2) {
			m.block(1 + m.IntN(4))
		}
		if len(m.ops) <= api.MaxLines {
			lists = append(lists, m.ops)
		}
	}
	return lists
}

// P2.1: nested blocks, and what one wrong line does to them.
func TestNestedBlocks(t *testing.T) {
	for n, ops := range made(300) {
		if !likeGrammar(t, ops) {
			t.Fatalf("%s does not fit", textOf(ops))
		}
		r := rand.New(rand.NewPCG(3, uint64(n)))
		at := r.IntN(len(ops))
		likeGrammar(t, slices.Delete(slices.Clone(ops), at, at+1))
		changed := slices.Clone(ops)
		changed[at] = api.OpIf + r.IntN(api.OpEnd-api.OpIf+1)
		likeGrammar(t, changed)
	}
}

// P2.7: Ends lead around a block, blocks do not overlap, Parent comes before.
func TestConsequencesOfBlocks(t *testing.T) {
	for _, ops := range made(300) {
		i := info(t, mainOf(linesOf(ops)))
		ends, parent := i.Ends[0], i.Parent[0]
		for n, op := range ops {
			if parent[n] >= n {
				t.Fatalf("%s: Parent of %d is %d", textOf(ops), n, parent[n])
			}
			if op != api.OpEnd {
				continue
			}
			first := ends[n]
			around := []int{first}
			for around[len(around)-1] != n && len(around) < 5 {
				around = append(around, ends[around[len(around)-1]])
			}
			if around[len(around)-1] != n || !slices.IsSorted(around) {
				t.Fatalf("%s: from the end %d to %v", textOf(ops), n, around)
			}
			for k := first + 1; k < n; k++ {
				if e := ends[k]; e >= 0 && (e < first || e > n) {
					t.Fatalf("%s: the block from %d to %d and that of %d", textOf(ops), first, n, k)
				}
			}
		}
	}
}

// P2.7: each variable of a line has a slot, once.
func TestEachVariableHasASlot(t *testing.T) {
	p := parsed(t, sample)
	i := info(t, p)
	for f, fun := range p.Funcs {
		for _, l := range fun.Lines {
			for _, s := range append([]string{l.A, l.B, l.C}, l.Args...) {
				if s != "" && Slot(i, f, s) < 0 {
					t.Errorf("%s has no slot in %s", s, fun.Name)
				}
			}
		}
		sorted := slices.Sorted(slices.Values(i.Slots[f]))
		if len(slices.Compact(sorted)) != len(i.Slots[f]) {
			t.Errorf("slots of %s: %v", fun.Name, i.Slots[f])
		}
	}
}
