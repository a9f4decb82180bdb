package lang

import (
	"reflect"
	"strings"
	"testing"

	"facsimile/api"
)

const sample = "class Point x y\nmethod add sum\nmethod show shown\nclass Empty\nfunc main\np = new Point\nq = send p add p\nprint q\nendfunc\nfunc sum self other\nreturn self\nendfunc\nfunc none\nendfunc\n"

// sampleProgram returns the program whose text is sample.
func sampleProgram() api.Program {
	return api.Program{
		Classes: []api.Class{
			{Name: "Point", Fields: []string{"x", "y"}, Methods: []api.Method{{Name: "add", Func: "sum"}, {Name: "show", Func: "shown"}}},
			{Name: "Empty"},
		},
		Funcs: []api.Func{
			{Name: "main", Lines: []api.Line{
				{Op: api.OpNew, A: "p", Name: "Point"},
				{Op: api.OpSend, A: "q", B: "p", Name: "add", Args: []string{"p"}},
				{Op: api.OpPrint, A: "q"},
			}},
			{Name: "sum", Params: []string{"self", "other"}, Lines: []api.Line{{Op: api.OpReturn, A: "self"}}},
			{Name: "none"},
		},
	}
}

// P1.2, P1.3, P1.5: a program and its text.
func TestSample(t *testing.T) {
	p, at, e := Parse(sample)
	if at != 0 || e != api.OK || !reflect.DeepEqual(p, sampleProgram()) {
		t.Errorf("Parse = %+v, %d, %v", p, at, e)
	}
	if got := Print(sampleProgram()); got != sample {
		t.Errorf("Print = %q", got)
	}
}

// rightText checks a text that is that of a right program.
func rightText(t *testing.T, s string) {
	t.Helper()
	p, at, e := Parse(s)
	if at != 0 || e != api.OK || Print(p) != s {
		t.Errorf("Parse(%.300q): %d, %v, with the text %.300q", s, at, e, Print(p))
	}
}

// wrongText checks the error of a text, and its place.
func wrongText(t *testing.T, s string, at int, e api.Errno) {
	t.Helper()
	p, gotAt, got := Parse(s)
	if gotAt != at || got != e || !reflect.DeepEqual(p, api.Program{}) {
		t.Errorf("Parse(%.300q) = %+v, %d, %v, want %d, %v", s, p, gotAt, got, at, e)
	}
}

// P1.3: texts that are right, whatever chapter 2 says about them.
func TestRightTexts(t *testing.T) {
	for _, s := range []string{
		"",
		"func main\nendfunc\n",
		"class A\n",
		"class A\nclass A\nclass A A A\n",
		"class A\nmethod m f\nmethod m f\nclass B\nmethod m A\n",
		"class A\nmethod m f\nfunc f\nendfunc\nfunc f f f\nendfunc\n",
		"func f\nend\nelse\ncatch x\nfinally\nx = call unknown y\nendfunc\n",
	} {
		rightText(t, s)
	}
}

// P1.3: an error is that of the first line that has one, at its first byte; a last line without a byte 10 is one.
func TestPlaces(t *testing.T) {
	wrongText(t, "func main\nx = 1\n", 16, api.ErrToken)
	wrongText(t, "func main\nx := 1\n", 10, api.ErrToken)
	wrongText(t, "func main\nx := 1\ny := 1\n", 10, api.ErrToken)
	wrongText(t, "func main\n", 10, api.ErrToken)
	wrongText(t, "func main", 0, api.ErrToken)
	wrongText(t, "func main\nendfunc", 10, api.ErrToken)
	wrongText(t, "func main\nx = 1\nendfunc", 16, api.ErrToken)
	wrongText(t, "func main\nx = 1", 10, api.ErrToken)
	wrongText(t, "class A", 0, api.ErrToken)
	wrongText(t, "class A\nclass B", 8, api.ErrToken)
	wrongText(t, "class A\nmethod m f", 8, api.ErrToken)
	wrongText(t, "x", 0, api.ErrToken)
	wrongText(t, "\n", 0, api.ErrToken)
	wrongText(t, "func main\nendfunc\n\n", 18, api.ErrToken)
	wrongText(t, "func main\n\nendfunc\n", 10, api.ErrToken)
	wrongText(t, "func main\nendfunc\nfunc f\nendfunc\nfunc g\nyield\n", 46, api.ErrToken)
}

// P1.3: lines outside of functions that are not permitted there.
func TestOuterLines(t *testing.T) {
	for _, line := range []string{
		"class", "class ", "class if", "class A ", "class  A", "class A  b", " class A", "class A if", "class A 1", "class 1", "class A-b", "class A b\r", "Class A", "classA", "class abcdefghijklm",
		"func", "func ", "func end", "func f ", "func  f", "func f  x", "func f x if", "func f 9", "Func f", "func f(x)", "func f\tx",
		"method", "method m", "method m ", "method m f g", "method  m f", "method m  f", "method m f ", "method if f", "method m if", "method m 1",
		"endfunc", "end", "yield", "x = y", "print x", "#", "'", "x",
	} {
		wrongText(t, line+"\n", 0, api.ErrToken)
		wrongText(t, "class A\n"+line+"\n", 8, api.ErrToken)
		wrongText(t, "func f\nendfunc\n"+line+"\n", 15, api.ErrToken)
	}
}

// P1.3: classes come before functions, methods after a class.
func TestOrder(t *testing.T) {
	wrongText(t, "method m f\n", 0, api.ErrToken)
	wrongText(t, "func f\nendfunc\nclass A\n", 15, api.ErrToken)
	wrongText(t, "func f\nendfunc\nmethod m f\n", 15, api.ErrToken)
	wrongText(t, "class A\nfunc f\nendfunc\nmethod m f\n", 23, api.ErrToken)
	wrongText(t, "class A\nfunc f\nendfunc\nclass B\n", 23, api.ErrToken)
}

// P1.3: lines inside of functions that are not permitted there.
func TestInnerLines(t *testing.T) {
	for _, line := range []string{"", " ", "class A", "method m f", "func g", "endfunc ", " endfunc", "x = if", "x = call f a b c d e f g h i ", "x = call f a b c d e f g h if", "x = y\r", "func"} {
		wrongText(t, "class A\nfunc f\n"+line+"\nendfunc\n", 15, api.ErrToken)
		wrongText(t, "func f\nendfunc\nfunc f\nx = 'a'\n"+line+"\n", 30, api.ErrToken)
	}
}

// eight are as many names as a list may have.
const eight = " a b c d e f g h"

// P1.3: lists of 8 names are permitted, of 9 not.
func TestLists(t *testing.T) {
	for _, start := range []string{"class A", "func f"} {
		end := ""
		if start == "func f" {
			end = "endfunc\n"
		}
		rightText(t, start+eight+"\n"+end)
		wrongText(t, start+eight+" i\n"+end, 0, api.ErrMany)
		wrongText(t, start+strings.Repeat(eight, 100)+"\n"+end, 0, api.ErrMany)
		wrongText(t, start+eight+" i if\n"+end, 0, api.ErrToken)
		wrongText(t, start+eight+" i", 0, api.ErrToken)
	}
	for _, start := range []string{"x = call f", "x = bind f", "x = apply f", "x = send y m", "spawn 1 f"} {
		rightText(t, "func f\n"+start+eight+"\nendfunc\n")
		wrongText(t, "func f\n"+start+eight+" i\nendfunc\n", 7, api.ErrMany)
		wrongText(t, "func f\nyield\n"+start+strings.Repeat(eight, 100)+"\nendfunc\n", 13, api.ErrMany)
		wrongText(t, "func f\n"+start+eight+" i if\nendfunc\n", 7, api.ErrToken)
		wrongText(t, "func f\n"+start+eight+" i", 7, api.ErrToken)
	}
}

// P1.3: 12 classes, 24 functions, 8 methods and 60 lines are permitted, but not one more.
func TestLimits(t *testing.T) {
	classes := strings.Repeat("class A\n", 12)
	rightText(t, classes)
	wrongText(t, classes+"class A\n", 96, api.ErrMany)
	wrongText(t, classes+"class if\n", 96, api.ErrToken)
	wrongText(t, classes+"class A", 96, api.ErrToken)
	rightText(t, classes+"method m f\n")

	methods := "class A\n" + strings.Repeat("method m f\n", 8)
	rightText(t, methods)
	rightText(t, methods+methods)
	wrongText(t, methods+"method m f\n", 96, api.ErrMany)
	wrongText(t, methods+"method m\n", 96, api.ErrToken)
	wrongText(t, methods+"method m f", 96, api.ErrToken)

	funcs := strings.Repeat("func f\nendfunc\n", 24)
	rightText(t, funcs)
	wrongText(t, funcs+"func f\nendfunc\n", 360, api.ErrMany)
	wrongText(t, funcs+"func if\n", 360, api.ErrToken)
	wrongText(t, funcs+"func f", 360, api.ErrToken)
	wrongText(t, funcs+"class A\n", 360, api.ErrToken)

	lines := "func f\n" + strings.Repeat("end\n", 60)
	rightText(t, lines+"endfunc\n")
	rightText(t, lines+"endfunc\n"+lines+"endfunc\n")
	wrongText(t, lines, 247, api.ErrToken)
	wrongText(t, lines+"end\nendfunc\n", 247, api.ErrMany)
	wrongText(t, lines+"ende\nendfunc\n", 247, api.ErrToken)
	wrongText(t, lines+"end", 247, api.ErrToken)
	wrongText(t, lines+"x = call f"+eight+" i\nendfunc\n", 247, api.ErrMany)
}

// longText returns a right text of so many bytes (at least 1000, at most 10000).
func longText(size int) string {
	s := "func main\n" + strings.Repeat("x = '"+strings.Repeat("a", 150)+"'\n", (size-1000)/157)
	for size-len(s)-8 > 300 {
		s += "x = '" + strings.Repeat("b", 150) + "'\n"
	}
	rest := size - len(s) - 8
	s += "x = '" + strings.Repeat("c", rest/2-7) + "'\n"
	return s + "x = '" + strings.Repeat("d", size-len(s)-8-7) + "'\nendfunc\n"
}

// P1.2, P1.3: 8000 bytes are permitted, 8001 not.
func TestTextLimit(t *testing.T) {
	for _, size := range []int{7999, 8000} {
		s := longText(size)
		if len(s) != size {
			t.Fatalf("%d bytes, want %d", len(s), size)
		}
		rightText(t, s)
	}
	wrongText(t, longText(8001), 8000, api.ErrMany)
	wrongText(t, strings.Repeat("x", 8001), 8000, api.ErrMany)
	wrongText(t, strings.Repeat("x", 8000), 0, api.ErrToken)
	wrongText(t, strings.Repeat("\n", 1000000), 8000, api.ErrMany)

	p, _, _ := Parse(longText(8000))
	p.Funcs[0].Name = "other"
	if s := Print(p); s != "" {
		t.Errorf("Print of a program of 8001 bytes: %d bytes", len(s))
	}
	p.Funcs[0].Name = "f"
	if s := Print(p); len(s) != 7997 {
		t.Errorf("Print of a program of 7997 bytes: %d bytes", len(s))
	}
}

// P1.3, P1.5: a text that was changed at one byte is that of the program that is read, or has an error at the beginning of a line, or at its end.
func TestChangedTexts(t *testing.T) {
	const changes = "\x00\n '=.aA9\xff"
	for n := range len(sample) {
		checkProgram(t, sample[:n])
		checkProgram(t, sample[:n]+sample[n+1:])
		for k := range len(changes) {
			checkProgram(t, sample[:n]+changes[k:k+1]+sample[n+1:])
			checkProgram(t, sample[:n]+changes[k:k+1]+sample[n:])
		}
	}
}

func checkProgram(t *testing.T, s string) {
	t.Helper()
	p, at, e := Parse(s)
	if e == api.OK {
		if at != 0 || Print(p) != s {
			t.Errorf("Parse(%q): %d, and the text %q", s, at, Print(p))
		}
		checkLines(t, p)
		return
	}
	start := at >= 0 && at <= len(s) && (at == 0 || s[at-1] == '\n')
	if e != api.ErrToken && e != api.ErrMany || !start || !reflect.DeepEqual(p, api.Program{}) {
		t.Errorf("Parse(%q) = %+v, %d, %v", s, p, at, e)
	}
}

// checkLines checks that each line of p is what ReadLine returns for its text.
func checkLines(t *testing.T, p api.Program) {
	t.Helper()
	for _, f := range p.Funcs {
		for _, l := range f.Lines {
			if got, ok := ReadLine(Line(l)); !ok || !reflect.DeepEqual(got, l) {
				t.Errorf("ReadLine(%q) = %+v, %t", Line(l), got, ok)
			}
		}
	}
}

// P1: Parse and ReadLine end without a panic for all texts.
func FuzzParse(f *testing.F) {
	f.Add(sample)
	f.Add("")
	f.Add("class A" + eight + " i\n")
	f.Add("func f\nx = '''\xff'\n")
	for _, c := range rightLines() {
		f.Add("func f\n" + c.text + "\nendfunc\n")
	}
	f.Fuzz(func(t *testing.T, s string) {
		if len(s) <= api.MaxText {
			checkProgram(t, s)
		}
		checkText(t, s)
	})
}

// R3, R4: results share no memory with each other, and the same text gives the same program again.
func TestProgramsShareNothing(t *testing.T) {
	p, _, _ := Parse(sample)
	p.Classes[0].Fields[0] = "z"
	_ = append(p.Classes[0].Fields[:1], "z")
	_ = append(p.Classes[0].Methods[:1], api.Method{Name: "z", Func: "z"})
	_ = append(p.Funcs[1].Params[:1], "z")
	p.Funcs[0].Lines[1].Args[0] = "z"
	p.Funcs[0] = api.Func{}
	if q, _, _ := Parse(sample); !reflect.DeepEqual(q, sampleProgram()) {
		t.Errorf("Parse = %+v", q)
	}
	s := "func f a b\nendfunc\nfunc g a b\nendfunc\n"
	q, _, _ := Parse(s)
	for n := range q.Funcs {
		_ = append(q.Funcs[n].Params, "z")
		_ = append(q.Funcs[n].Lines, api.Line{Op: api.OpEnd})
	}
	_ = append(q.Funcs[:1], api.Func{Name: "h"})
	if got := Print(q); got != "func f a b\nendfunc\nfunc h\nendfunc\n" {
		t.Errorf("Print = %q", got)
	}
}
