package check

import (
	"slices"
	"strings"
	"testing"

	"facsimile/api"
	"facsimile/lang"
)

// parsed returns the program with this text.
func parsed(t *testing.T, text string) api.Program {
	t.Helper()
	p, at, e := lang.Parse(text)
	if e != api.OK {
		t.Fatalf("the test has a wrong text: error %d at %d of %q", e, at, text)
	}
	return p
}

// body returns lines from their texts, with "; " between them.
func body(t *testing.T, text string) []api.Line {
	t.Helper()
	var lines []api.Line
	for _, s := range strings.Split(text, "; ") {
		l, ok := lang.ReadLine(s)
		if !ok && text != "" {
			t.Fatalf("the test has a wrong line: %q", s)
		}
		if ok {
			lines = append(lines, l)
		}
	}
	return lines
}

// mainOf returns a program with the function main alone.
func mainOf(lines []api.Line) api.Program {
	return api.Program{Funcs: []api.Func{{Name: "main", Lines: lines}}}
}

func info(t *testing.T, p api.Program) api.Info {
	t.Helper()
	i, at, e := Check(p)
	if e != api.OK || at != (api.Place{}) {
		t.Fatalf("Check: %v, error %d", at, e)
	}
	return i
}

// isRight checks that a program is accepted.
func isRight(t *testing.T, what string, p api.Program) {
	t.Helper()
	if _, at, e := Check(p); e != api.OK || at != (api.Place{}) {
		t.Errorf("%s: %v, error %d, want none", what, at, e)
	}
}

// isWrong checks the error of a program, and that all else is zero.
func isWrong(t *testing.T, what string, p api.Program, want api.Place, err api.Errno) {
	t.Helper()
	i, at, e := Check(p)
	if at != want || e != err {
		t.Errorf("%s: %v, error %d, want %v, error %d", what, at, e, want, err)
	}
	if len(i.Slots)+len(i.Ends)+len(i.Parent) > 0 {
		t.Errorf("%s: an Info together with an error: %v", what, i)
	}
}

// inMain is the place of a line of the function 0.
func inMain(line int) api.Place { return api.Place{Line: line} }

// inClass is the place of the errors of a class.
func inClass(n int) api.Place { return api.Place{Fun: -1, Line: n} }

// distinct returns n names that differ.
func distinct(n int) []string {
	var list []string
	for k := range n {
		list = append(list, "v"+string([]byte{byte('a' + k/26), byte('a' + k%26)}))
	}
	return list
}

func sameRows[T comparable](a, b [][]T) bool {
	return slices.EqualFunc(a, b, slices.Equal[[]T])
}

func sameInfo(a, b api.Info) bool {
	return sameRows(a.Slots, b.Slots) && sameRows(a.Ends, b.Ends) && sameRows(a.Parent, b.Parent)
}
