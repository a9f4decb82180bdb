package live

import (
	"slices"
	"strings"
	"testing"

	"facsimile/api"
	"facsimile/check"
	"facsimile/lang"
)

// parsed returns the program with this text.
func parsed(t *testing.T, text string) api.Program {
	t.Helper()
	p, at, e := lang.Parse(text)
	if e != api.OK {
		t.Fatalf("the test has a wrong text: error %d at %d of %q", e, at, text)
	}
	return p
}

// info returns the Info of a program that is right.
func info(t *testing.T, p api.Program) api.Info {
	t.Helper()
	i, at, e := check.Check(p)
	if e != api.OK {
		t.Fatalf("the test has a wrong program: error %d at %v", e, at)
	}
	return i
}

// others are functions that the lines of tests name: g and h are called, with none and two parameters.
const others = "func g\nendfunc\nfunc h x y\nendfunc\n"

// mainOf returns the program whose function 0 is main with these lines.
func mainOf(t *testing.T, lines ...string) api.Program {
	t.Helper()
	return parsed(t, strings.Join(slices.Concat([]string{"class P f", "func main"}, lines, []string{"endfunc", others}), "\n"))
}

// named returns the names of the slots that a row of Before or Across has, with blanks between them.
func named(slots []string, row []bool) string {
	var names []string
	for slot, live := range row {
		if live {
			names = append(names, slots[slot])
		}
	}
	return strings.Join(names, " ")
}

// sorted returns names with blanks between them in the order of the alphabet.
func sorted(names string) string {
	return strings.Join(slices.Sorted(strings.FieldsSeq(names)), " ")
}

// row is a line of a function, with the names of the variables that are live before and across it.
type row struct{ line, before, across string }

// isLive checks what is live in main, which consists of the lines of these rows.
func isLive(t *testing.T, what string, rows ...row) {
	t.Helper()
	var lines []string
	for _, r := range rows {
		lines = append(lines, r.line)
	}
	p := mainOf(t, lines...)
	i := info(t, p)
	before, across := Before(p, i, 0), Across(p, i, 0)
	if len(before) != len(rows)+1 || len(across) != len(rows) {
		t.Fatalf("%s: %d and %d rows for %d lines", what, len(before), len(across), len(rows))
	}
	for n, r := range rows {
		if got := named(i.Slots[0], before[n]); sorted(got) != sorted(r.before) {
			t.Errorf("%s: before line %d %q: %q, want %q", what, n, r.line, got, r.before)
		}
		if got := named(i.Slots[0], across[n]); sorted(got) != sorted(r.across) {
			t.Errorf("%s: across line %d %q: %q, want %q", what, n, r.line, got, r.across)
		}
	}
	if got := named(i.Slots[0], before[len(rows)]); got != "" {
		t.Errorf("%s: before the end: %q", what, got)
	}
	for n, l := range slices.Concat(before, across) {
		if len(l) != len(i.Slots[0]) {
			t.Errorf("%s: row %d has %d slots", what, n, len(l))
		}
	}
}

func sameRows[T comparable](a, b [][]T) bool { return slices.EqualFunc(a, b, slices.Equal[[]T]) }

// cloneRows returns rows that share no memory with a.
func cloneRows[T any](a [][]T) [][]T {
	var rows [][]T
	for _, r := range a {
		rows = append(rows, slices.Clone(r))
	}
	return rows
}
