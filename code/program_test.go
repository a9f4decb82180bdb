package code

import (
	"slices"
	"strconv"
	"strings"
	"testing"

	"facsimile/api"
	"facsimile/check"
	"facsimile/lang"
)

// parsed returns the program with this text.
func parsed(t *testing.T, text string) api.Program {
	t.Helper()
	p, at, e := lang.Parse(text)
	if e != api.OK {
		t.Fatalf("the test has a wrong text: error %d at %d of %q", e, at, text)
	}
	return p
}

// info returns the Info of a program that is right.
func info(t *testing.T, p api.Program) api.Info {
	t.Helper()
	i, at, e := check.Check(p)
	if e != api.OK {
		t.Fatalf("the test has a wrong program: error %d at %v", e, at)
	}
	return i
}

// compiled returns the code of a program that is right.
func compiled(t *testing.T, p api.Program) api.Code {
	t.Helper()
	c, e := Compile(p, info(t, p))
	if e != api.OK {
		t.Fatalf("Compile: error %d of %q", e, lang.Print(p))
	}
	return c
}

// mainOf returns the program whose function 0 is main with these lines, which have "; " between them. It has the classes 0 P and 1 Q, and the functions 1 g and 2 h, with none and two parameters.
func mainOf(t *testing.T, lines string) api.Program {
	t.Helper()
	text := "class P f\nclass Q\nfunc main\n"
	if lines != "" {
		text += strings.ReplaceAll(lines, "; ", "\n") + "\n"
	}
	return parsed(t, text+"endfunc\nfunc g\nendfunc\nfunc h x y\nendfunc\n")
}

// words returns the names of all operators, as the tables of the document have them.
func words() map[int]string {
	w := map[int]string{api.BNop: "nop", api.BJump: "jump", api.BFalse: "false", api.BEnter: "enter", api.BLeave: "leave"}
	lines := "const move not neg add sub mul div mod less equal and or cat new get set array at put len call bind apply send weak deref final print input clock spawn yield throw return if else while try catch finally end"
	for n, word := range strings.Fields(lines) {
		w[api.OpConst+n] = word
	}
	return w
}

// shown returns the instructions and handlers of a function in short: an operator, where it jumps, and the Lines; or a range, a target, and what it is for.
func shown(f api.CodeFunc) []string {
	var list []string
	for _, ins := range f.Ins {
		s := words()[ins.Op]
		if ins.Op == api.BJump || ins.Op == api.BFalse {
			s += " to " + strconv.Itoa(ins.A)
		}
		var lines []string
		for _, l := range ins.Lines {
			lines = append(lines, strconv.Itoa(l))
		}
		list = append(list, s+" ("+strings.Join(lines, " ")+")")
	}
	for _, h := range f.Handlers {
		s := strconv.Itoa(h.From) + "-" + strconv.Itoa(h.To) + " to " + strconv.Itoa(h.Target) + " in " + strconv.Itoa(h.Slot)
		if h.Finally {
			s += " finally"
		}
		list = append(list, s)
	}
	return list
}

// makes checks what main with these lines is compiled to, as shown tells it.
func makes(t *testing.T, lines string, want ...string) {
	t.Helper()
	if got := shown(compiled(t, mainOf(t, lines)).Funcs[0]); !slices.Equal(got, want) {
		t.Errorf("%s:\n%s\nwant\n%s", lines, strings.Join(got, "\n"), strings.Join(want, "\n"))
	}
}

func integer(n int) api.Value { return api.Value{Kind: api.Int, N: n} }

func str(s string) api.Value { return api.Value{Kind: api.Str, S: s} }

func funOf(n int) api.Value { return api.Value{Kind: api.Fun, N: n} }
