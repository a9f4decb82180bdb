package check

import (
	"math"
	"math/rand/v2"
	"slices"
	"testing"

	"facsimile/api"
)

// caught is what Catch returns.
type caught struct {
	target, slot int
	finally, ok  bool
}

// returned is what Finally returns.
type returned struct {
	target int
	ok     bool
}

var (
	uncaught   = caught{-1, -1, false, false}
	unreturned = returned{-1, false}
)

func catchOf(p api.Program, i api.Info, at api.Place) caught {
	target, slot, finally, ok := Catch(p, i, at)
	return caught{target, slot, finally, ok}
}

func finallyOf(p api.Program, i api.Info, at api.Place) returned {
	target, ok := Finally(p, i, at)
	return returned{target, ok}
}

// The example of the chapter.
func TestExample(t *testing.T) {
	p := mainOf(body(t, "try; if a; throw a; else; b = a; end; catch c; finally; print c; end"))
	i := info(t, p)
	want := api.Info{
		Slots:  [][]string{{"a", "b", "c"}},
		Ends:   [][]int{{6, 3, -1, 5, -1, 1, 7, 9, -1, 0}},
		Parent: [][]int{{-1, 0, 1, 0, 3, 0, -1, -1, 7, -1}},
	}
	if !sameInfo(i, want) {
		t.Errorf("Check = %v", i)
	}
	nexts := []int{1, 2, -1, 6, 5, 6, 7, 8, 9, 10}
	skips := []int{-1, 4, -1, -1, -1, -1, -1, -1, -1, -1}
	inTry, inCatch := caught{7, 2, false, true}, uncaught
	catches := []caught{uncaught, inTry, inTry, inTry, inTry, inTry, inCatch, uncaught, uncaught, uncaught}
	inBlock := returned{8, true}
	finals := []returned{unreturned, inBlock, inBlock, inBlock, inBlock, inBlock, unreturned, unreturned, unreturned, unreturned}
	for n := range nexts {
		at := inMain(n)
		if got := Next(p, i, at); got != nexts[n] {
			t.Errorf("Next of %d = %d, want %d", n, got, nexts[n])
		}
		if got := Skip(p, i, at); got != skips[n] {
			t.Errorf("Skip of %d = %d, want %d", n, got, skips[n])
		}
		if got := catchOf(p, i, at); got != catches[n] {
			t.Errorf("Catch of %d = %v, want %v", n, got, catches[n])
		}
		if got := finallyOf(p, i, at); got != finals[n] {
			t.Errorf("Finally of %d = %v, want %v", n, got, finals[n])
		}
	}
}

// P2.3: where control goes on from each kind of line.
func TestNextAndSkip(t *testing.T) {
	for _, c := range []struct {
		lines       string
		nexts, skip []int
	}{
		{"if a; yield; end", []int{1, 2, 3}, []int{3, -1, -1}},
		{"if a; end", []int{1, 2}, []int{2, -1}},
		{"if a; else; end", []int{1, 3, 3}, []int{2, -1, -1}},
		{"if a; x = a; else; return x; end; yield", []int{1, 2, 5, -1, 5, 6}, []int{3, -1, -1, -1, -1, -1}},
		{"while a; end; yield", []int{1, 0, 3}, []int{2, -1, -1}},
		{"while a; while b; end; if c; end; end", []int{1, 2, 1, 4, 5, 0}, []int{6, 3, -1, 5, -1, -1}},
		{"try; throw a; catch c; yield; end; yield", []int{1, -1, 5, 4, 5, 6}, []int{-1, -1, -1, -1, -1, -1}},
		{"try; catch c; finally; end", []int{1, 2, 3, 4}, []int{-1, -1, -1, -1}},
		{"try; catch c; yield; finally; yield; end", []int{1, 3, 3, 4, 5, 6}, []int{-1, -1, -1, -1, -1, -1}},
		{"try; finally; yield; end; yield", []int{1, 2, 3, 4, 5}, []int{-1, -1, -1, -1, -1}},
	} {
		p := mainOf(body(t, c.lines))
		i := info(t, p)
		var nexts, skip []int
		for n := range p.Funcs[0].Lines {
			nexts, skip = append(nexts, Next(p, i, inMain(n))), append(skip, Skip(p, i, inMain(n)))
		}
		if !slices.Equal(nexts, c.nexts) || !slices.Equal(skip, c.skip) {
			t.Errorf("%s: Next %v, Skip %v, want %v and %v", c.lines, nexts, skip, c.nexts, c.skip)
		}
	}
}

// P2.3: a line of each operator that is not named goes on at the next line, and is not skipped.
func TestNextOfEachOperator(t *testing.T) {
	for op := api.OpConst; op <= api.OpEnd; op++ {
		p := mainOf([]api.Line{{Op: op}, {}})
		i := api.Info{Slots: [][]string{nil}, Ends: [][]int{{-1, -1}}, Parent: [][]int{{-1, -1}}}
		want := 1
		switch op {
		case api.OpThrow, api.OpReturn:
			want = -1
		case api.OpElse, api.OpCatch:
			continue // their Ends are lines
		}
		if got := Next(p, i, inMain(0)); got != want {
			t.Errorf("Next of the operator %d = %d, want %d", op, got, want)
		}
		if got := Skip(p, i, inMain(0)); got != -1 && op != api.OpIf && op != api.OpWhile {
			t.Errorf("Skip of the operator %d = %d", op, got)
		}
	}
}

// P2.4, P2.5: the parts of blocks in blocks.
func TestCatchAndFinally(t *testing.T) {
	for _, c := range []struct {
		lines string
		line  int
		catch caught
		final returned
	}{
		{"throw a", 0, uncaught, unreturned},
		{"try; throw a; catch c; end", 1, caught{3, 1, false, true}, unreturned},
		{"try; throw a; catch a; end", 1, caught{3, 0, false, true}, unreturned},
		{"try; catch c; throw a; end", 2, uncaught, unreturned},
		{"try; throw a; finally; end", 1, caught{3, -1, true, true}, returned{3, true}},
		{"try; finally; throw a; end", 2, uncaught, unreturned},
		{"try; throw a; catch c; finally; end", 1, caught{3, 1, false, true}, returned{4, true}},
		{"try; catch c; throw a; finally; end", 2, caught{4, -1, true, true}, returned{4, true}},
		{"try; catch c; finally; throw a; end", 3, uncaught, unreturned},
		// The lines of a block itself belong to what is around it.
		{"try; catch c; finally; end", 0, uncaught, unreturned},
		{"try; catch c; finally; end", 1, uncaught, unreturned},
		{"try; catch c; finally; end", 2, uncaught, unreturned},
		{"try; catch c; finally; end", 3, uncaught, unreturned},
		{"try; try; catch c; finally; end; catch d; end", 1, caught{6, 1, false, true}, unreturned},
		{"try; try; catch c; finally; end; catch d; end", 2, caught{6, 1, false, true}, unreturned},
		{"try; try; catch c; finally; end; catch d; end", 3, caught{6, 1, false, true}, unreturned},
		{"try; try; catch c; finally; end; catch d; end", 4, caught{6, 1, false, true}, unreturned},
		// A part that has nothing is left, to what is around its block.
		{"try; try; catch c; throw a; end; catch d; end", 3, caught{6, 2, false, true}, unreturned},
		{"try; try; finally; throw a; end; finally; end", 3, caught{6, -1, true, true}, returned{6, true}},
		{"try; try; throw a; catch c; end; finally; end", 2, caught{4, 1, false, true}, returned{6, true}},
		{"try; catch c; try; throw a; catch d; end; finally; end", 3, caught{5, 2, false, true}, returned{7, true}},
		{"try; catch c; try; catch d; throw a; end; finally; end", 4, caught{7, -1, true, true}, returned{7, true}},
		{"try; finally; try; throw a; finally; end; end", 3, caught{5, -1, true, true}, returned{5, true}},
		{"try; finally; try; finally; throw a; end; end", 4, uncaught, unreturned},
		{"try; while a; if a; yield; else; throw a; end; end; catch c; finally; end", 5, caught{9, 1, false, true}, returned{10, true}},
		{"while a; if a; throw a; end; end", 2, uncaught, unreturned},
	} {
		p := mainOf(body(t, c.lines))
		i := info(t, p)
		if got := catchOf(p, i, inMain(c.line)); got != c.catch {
			t.Errorf("%s: Catch of %d = %v, want %v", c.lines, c.line, got, c.catch)
		}
		if got := finallyOf(p, i, inMain(c.line)); got != c.final {
			t.Errorf("%s: Finally of %d = %v, want %v", c.lines, c.line, got, c.final)
		}
	}
}

// wantCatch is what the chapter says of an exception at a line, by the grammar.
func wantCatch(g *grammar, line, slot int) caught {
	for _, n := range g.outer(line) {
		switch {
		case g.ops[n] == api.OpTry && g.after(n, api.OpCatch) >= 0:
			return caught{g.after(n, api.OpCatch) + 1, slot, false, true}
		case (g.ops[n] == api.OpTry || g.ops[n] == api.OpCatch) && g.after(n, api.OpFinally) >= 0:
			return caught{g.after(n, api.OpFinally) + 1, -1, true, true}
		}
	}
	return uncaught
}

// wantFinally is what the chapter says of a return at a line, by the grammar.
func wantFinally(g *grammar, line int) returned {
	for _, n := range g.outer(line) {
		if g.ops[n] == api.OpTry || g.ops[n] == api.OpCatch {
			if to := g.after(n, api.OpFinally); to >= 0 {
				return returned{to + 1, true}
			}
		}
	}
	return unreturned
}

// P2.3 to P2.5, P2.7: nested blocks in the second function, against the grammar; control stays in the function.
func TestRoutesOfNestedBlocks(t *testing.T) {
	for _, ops := range made(300) {
		g, _, _ := descend(ops)
		p := mainOf(nil)
		p.Funcs = append(p.Funcs, api.Func{Name: "f", Params: []string{"p"}, Lines: linesOf(ops)})
		i := info(t, p)
		slot := Slot(i, 1, "c")
		for n, op := range ops {
			at := api.Place{Fun: 1, Line: n}
			if got, want := catchOf(p, i, at), wantCatch(g, n, slot); got != want {
				t.Fatalf("%s: Catch of %d = %v, want %v", textOf(ops), n, got, want)
			}
			if got, want := finallyOf(p, i, at), wantFinally(g, n); got != want {
				t.Fatalf("%s: Finally of %d = %v, want %v", textOf(ops), n, got, want)
			}
			next, skip := Next(p, i, at), Skip(p, i, at)
			if next > len(ops) || next < 0 && op != api.OpThrow && op != api.OpReturn {
				t.Fatalf("%s: Next of %d = %d", textOf(ops), n, next)
			}
			if skip > len(ops) || skip < 0 && (op == api.OpIf || op == api.OpWhile) {
				t.Fatalf("%s: Skip of %d = %d", textOf(ops), n, skip)
			}
		}
	}
}

// notRight checks what is returned for a place that is not right.
func notRight(t *testing.T, p api.Program, i api.Info, at api.Place) {
	t.Helper()
	if got := Next(p, i, at); got != -1 {
		t.Errorf("Next of %v = %d", at, got)
	}
	if got := Skip(p, i, at); got != -1 {
		t.Errorf("Skip of %v = %d", at, got)
	}
	if got := catchOf(p, i, at); got != uncaught {
		t.Errorf("Catch of %v = %v", at, got)
	}
	if got := finallyOf(p, i, at); got != unreturned {
		t.Errorf("Finally of %v = %v", at, got)
	}
}

// P2.3 to P2.5: places that are not right, with the Info of the program, with that of a greater one, and with none.
func TestPlacesThatAreNotRight(t *testing.T) {
	p := mainOf(body(t, "try; while a; throw a; end; catch c; finally; end"))
	p.Funcs = append(p.Funcs, api.Func{Name: "f"})
	greater := mainOf(body(t, "try; try; while a; if a; throw a; else; end; end; catch c; finally; end; finally; end"))
	greater.Funcs = append(greater.Funcs, api.Func{Name: "g", Lines: greater.Funcs[0].Lines}, api.Func{Name: "h", Lines: greater.Funcs[0].Lines})
	for _, i := range []api.Info{info(t, p), info(t, greater), {}} {
		for _, at := range []api.Place{
			{Fun: 0, Line: 7}, {Fun: 0, Line: 8}, {Fun: 0, Line: -1}, {Fun: 0, Line: math.MaxInt}, {Fun: 0, Line: math.MinInt},
			{Fun: 1, Line: 0}, {Fun: 1, Line: 4}, {Fun: 1, Line: -1},
			{Fun: 2, Line: 0}, {Fun: 2, Line: 4}, {Fun: -1, Line: 0}, {Fun: -1, Line: 4},
			{Fun: math.MaxInt, Line: 0}, {Fun: math.MinInt, Line: 0}, {Fun: math.MinInt, Line: math.MinInt},
		} {
			notRight(t, p, i, at)
		}
	}
	notRight(t, api.Program{}, api.Info{}, api.Place{})
	notRight(t, api.Program{}, info(t, p), api.Place{})
}

// wild returns a number that may be that of a line, or of none.
func wild(r *rand.Rand) int {
	return []int{math.MinInt, -2, -1, r.IntN(8), r.IntN(8), r.IntN(8), r.IntN(80), math.MaxInt}[r.IntN(8)]
}

func wildRows(r *rand.Rand) [][]int {
	var rows [][]int
	for range r.IntN(4) {
		var row []int
		for range r.IntN(20) {
			row = append(row, wild(r))
		}
		rows = append(rows, row)
	}
	return rows
}

// P1: with any Info, and any lines, the calls end without a panic.
func TestAnyInfo(t *testing.T) {
	for n := range 20000 {
		r := rand.New(rand.NewPCG(5, uint64(n)))
		p := api.Program{Funcs: make([]api.Func, r.IntN(3))}
		for f := range p.Funcs {
			for range r.IntN(12) {
				p.Funcs[f].Lines = append(p.Funcs[f].Lines, api.Line{Op: api.OpThrow + r.IntN(api.OpEnd-api.OpThrow+2), A: "a"})
			}
		}
		i := api.Info{Ends: wildRows(r), Parent: wildRows(r), Slots: make([][]string, r.IntN(3))}
		for fun := -1; fun < 4; fun++ {
			for line := -1; line < 14; line++ {
				at := api.Place{Fun: fun, Line: line}
				if fun < 0 || fun >= len(p.Funcs) || line < 0 || line >= len(p.Funcs[fun].Lines) {
					notRight(t, p, i, at)
					continue
				}
				Next(p, i, at)
				Skip(p, i, at)
				Catch(p, i, at)
				Finally(p, i, at)
			}
			Slot(i, fun, "a")
		}
	}
}

// P1: Parents that lead in a circle do not keep a call for ever.
func TestParentsInACircle(t *testing.T) {
	p := mainOf(body(t, "try; if a; catch c; end; finally; end"))
	for _, parent := range [][]int{{0, 1, 2, 3, 4, 5}, {1, 0, 1, 0, 1, 0}, {5, 5, 5, 5, 5, 5}, {3, 3, 1, 2, 3, 4}} {
		for _, ends := range [][]int{{0, 1, 2, 3, 4, 5}, {2, 3, 0, 2, 4, 0}, {-1, -1, -1, -1, -1, -1}} {
			i := api.Info{Slots: [][]string{{"a"}}, Ends: [][]int{ends}, Parent: [][]int{parent}}
			for n := range p.Funcs[0].Lines {
				Next(p, i, inMain(n))
				Skip(p, i, inMain(n))
				Catch(p, i, inMain(n))
				Finally(p, i, inMain(n))
			}
		}
	}
}

// P2.6: the operators of lines that may throw.
func TestThrows(t *testing.T) {
	quiet := []int{api.OpConst, api.OpInput, api.OpClock, api.OpYield, api.OpElse, api.OpTry, api.OpCatch, api.OpFinally, api.OpEnd}
	for op := -50; op < 300; op++ {
		want := op >= api.OpConst && op <= api.OpEnd && !slices.Contains(quiet, op)
		if got := Throws(op); got != want {
			t.Errorf("Throws(%d) = %t", op, got)
		}
	}
	for _, op := range []int{api.OpMove, api.OpAdd, api.OpNew, api.OpCall, api.OpFinal, api.OpPrint, api.OpSpawn, api.OpThrow, api.OpReturn, api.OpIf, api.OpWhile} {
		if !Throws(op) {
			t.Errorf("Throws(%d) is false", op)
		}
	}
	for _, op := range []int{math.MinInt, math.MaxInt, 1 << 40, api.BNop, api.BJump} {
		if Throws(op) {
			t.Errorf("Throws(%d) is true", op)
		}
	}
}
