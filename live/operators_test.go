package live

import (
	"slices"
	"strings"
	"testing"

	"facsimile/api"
	"facsimile/lang"
)

// use is what the chapter says of an operator: a line with it (with lines before and after it, that make it right and neither read nor write), the names that it reads, and the name that it writes.
type use struct {
	op            int
	line          string
	reads, writes string
	first, after  []string
}

// uses has all operators.
func uses() []use {
	end := []string{"end"}
	try := []string{"try"}
	return []use{
		{op: api.OpConst, line: "a = 1", writes: "a"},
		{op: api.OpMove, line: "a = b", reads: "b", writes: "a"},
		{op: api.OpNot, line: "a = not b", reads: "b", writes: "a"},
		{op: api.OpNeg, line: "a = neg b", reads: "b", writes: "a"},
		{op: api.OpAdd, line: "a = b + c", reads: "b c", writes: "a"},
		{op: api.OpSub, line: "a = b - c", reads: "b c", writes: "a"},
		{op: api.OpMul, line: "a = b * c", reads: "b c", writes: "a"},
		{op: api.OpDiv, line: "a = b / c", reads: "b c", writes: "a"},
		{op: api.OpMod, line: "a = b % c", reads: "b c", writes: "a"},
		{op: api.OpLess, line: "a = b < c", reads: "b c", writes: "a"},
		{op: api.OpEqual, line: "a = b == c", reads: "b c", writes: "a"},
		{op: api.OpAnd, line: "a = b and c", reads: "b c", writes: "a"},
		{op: api.OpOr, line: "a = b or c", reads: "b c", writes: "a"},
		{op: api.OpCat, line: "a = b . c", reads: "b c", writes: "a"},
		{op: api.OpNew, line: "a = new P", writes: "a"},
		{op: api.OpGet, line: "a = b.c", reads: "b", writes: "a"},
		{op: api.OpSet, line: "a.c = b", reads: "a b"},
		{op: api.OpArray, line: "a = array b", reads: "b", writes: "a"},
		{op: api.OpAt, line: "a = b[c]", reads: "b c", writes: "a"},
		{op: api.OpPut, line: "a[b] = c", reads: "a b c"},
		{op: api.OpLen, line: "a = len b", reads: "b", writes: "a"},
		{op: api.OpCall, line: "a = call h b d", reads: "b d", writes: "a"},
		{op: api.OpBind, line: "a = bind h d", reads: "d", writes: "a"},
		{op: api.OpApply, line: "a = apply b c d e", reads: "b c d e", writes: "a"},
		{op: api.OpSend, line: "a = send b c d e", reads: "b d e", writes: "a"},
		{op: api.OpWeak, line: "a = weak b", reads: "b", writes: "a"},
		{op: api.OpDeref, line: "a = deref b", reads: "b", writes: "a"},
		{op: api.OpFinal, line: "final a g", reads: "a"},
		{op: api.OpPrint, line: "print a", reads: "a"},
		{op: api.OpInput, line: "a = input", writes: "a"},
		{op: api.OpClock, line: "a = clock", writes: "a"},
		{op: api.OpSpawn, line: "spawn 0 h c e", reads: "c e"},
		{op: api.OpYield, line: "yield"},
		{op: api.OpThrow, line: "throw a", reads: "a"},
		{op: api.OpReturn, line: "return a", reads: "a"},
		{op: api.OpIf, line: "if a", reads: "a", after: end},
		{op: api.OpElse, line: "else", first: []string{"if f"}, after: end},
		{op: api.OpWhile, line: "while a", reads: "a", after: end},
		{op: api.OpTry, line: "try", after: []string{"catch f", "end"}},
		{op: api.OpCatch, line: "catch a", first: try, after: end},
		{op: api.OpFinally, line: "finally", first: try, after: end},
		{op: api.OpEnd, line: "end", first: []string{"if f"}},
	}
}

// silent has the operators of lines that never throw.
func silent() []int {
	return []int{api.OpConst, api.OpInput, api.OpClock, api.OpYield, api.OpElse, api.OpTry, api.OpCatch, api.OpFinally, api.OpEnd}
}

// printed reads all variables of uses, but f.
var printed = []string{"print a", "print b", "print c", "print d", "print e"}

const all = "a b c d e"

// without returns the names that are not among those of the second list.
func without(names, removed string) string {
	return sorted(strings.Join(slices.DeleteFunc(strings.Fields(names), func(s string) bool {
		return slices.Contains(strings.Fields(removed), s)
	}), " "))
}

func union(a, b string) string {
	return strings.Join(slices.Compact(slices.Sorted(strings.FieldsSeq(a+" "+b))), " ")
}

// liveAt returns what is live before and across a line of a function whose parameters are the variables of uses.
func liveAt(t *testing.T, lines []string, line int) (string, string) {
	t.Helper()
	p := parsed(t, "class P f\nfunc main\nendfunc\n"+others+"func test a b c d e f\n"+strings.Join(lines, "\n")+"\nendfunc\n")
	i := info(t, p)
	last := len(p.Funcs) - 1
	before, across := Before(p, i, last), Across(p, i, last)
	if len(before) != len(lines)+1 || len(across) != len(lines) {
		t.Fatalf("%d and %d rows for %q", len(before), len(across), lines)
	}
	return sorted(named(i.Slots[last], before[line])), sorted(named(i.Slots[last], across[line]))
}

func TestUsesHaveAllOperators(t *testing.T) {
	for n, u := range uses() {
		l, ok := lang.ReadLine(u.line)
		if u.op != n+1 || !ok || l.Op != u.op {
			t.Errorf("%d: %q", n, u.line)
		}
	}
	if len(uses()) != api.OpEnd {
		t.Error("not all operators")
	}
}

// P5.1: where nothing is read later, what a line reads is live before it, and nothing else; nothing is live across it. (Only the end of a while leads to a line again.)
func TestReads(t *testing.T) {
	for _, u := range uses() {
		lines := slices.Concat(u.first, []string{u.line}, u.after)
		before, across := liveAt(t, lines, len(u.first))
		want := ""
		if u.op == api.OpWhile {
			want = u.reads
		}
		if before != sorted(u.reads) || across != want {
			t.Errorf("%s: %q before and %q across, want %q and %q", u.line, before, across, u.reads, want)
		}
	}
}

// P5.1: where all variables are read later, all are live across a line but that which it writes; those that it reads are live before it nevertheless.
func TestWrites(t *testing.T) {
	for _, u := range uses() {
		lines := slices.Concat(u.first, []string{u.line}, u.after, printed)
		before, across := liveAt(t, lines, len(u.first))
		want := without(all, u.writes)
		if u.op == api.OpThrow || u.op == api.OpReturn {
			want = ""
		}
		if before != union(want, u.reads) || across != want {
			t.Errorf("%s: %q before and %q across, want %q and %q", u.line, before, across, union(want, u.reads), want)
		}
	}
}

// P5.1: the way to a catch writes nothing but the variable of the catch, which exactly the lines have that may throw.
func TestThrows(t *testing.T) {
	for _, u := range uses() {
		lines := slices.Concat([]string{"try"}, u.first, []string{u.line}, u.after, []string{"catch d"}, printed, []string{"end"})
		_, across := liveAt(t, lines, 1+len(u.first))
		want := "a b c e"
		// The end of the finally part, to which the line finally leads, may throw.
		if slices.Contains(silent(), u.op) && u.op != api.OpFinally {
			want = ""
		}
		if across != want {
			t.Errorf("%s: %q across, want %q", u.line, across, want)
		}
	}
}

// P5.1: a variable that a line reads and writes is live before it, and not across it.
func TestReadsAndWrites(t *testing.T) {
	for _, line := range []string{"a = a", "a = neg a", "a = a + a", "a = b + a", "a = a.a", "a = a[a]", "a = array a", "a = call h b a", "a = bind h a", "a = apply a", "a = apply b a", "a = send a a", "a = send b a a", "a = weak a"} {
		before, across := liveAt(t, []string{line, "print a"}, 0)
		if !strings.Contains(before, "a") || across != "" {
			t.Errorf("%s: %q before and %q across", line, before, across)
		}
	}
}

// P5.1: a variable counts once, however often a line reads it.
func TestReadsTwice(t *testing.T) {
	for _, line := range []string{"a.f = a", "a[a] = a", "b = a . a", "b = call h a a", "spawn 1 h a a", "b = apply a a a a a a a a a", "b = send a f a a"} {
		before, across := liveAt(t, []string{line}, 0)
		if before != "a" || across != "" {
			t.Errorf("%s: %q before and %q across", line, before, across)
		}
	}
}

// P5.1: names of fields, methods, functions and classes are no variables.
func TestNamesAreNoVariables(t *testing.T) {
	p := parsed(t, "class a a\nfunc main\nb = new a\nb = b.a\nb.a = b\nb = send b a\nb = call a\nb = bind a\nb = 'a'\nfinal b a\nspawn 1 a\na = b\nendfunc\nfunc a\nendfunc\n")
	i := info(t, p)
	for _, rows := range [][][]bool{Before(p, i, 0), Across(p, i, 0)} {
		for n, r := range rows {
			if strings.Contains(named(i.Slots[0], r), "a") {
				t.Errorf("a is live at %d", n)
			}
		}
	}
}
