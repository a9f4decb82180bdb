package live

import (
	"testing"

	"facsimile/api"
)

// P5.1: the example of the chapter.
func TestExample(t *testing.T) {
	isLive(t, "example",
		row{"i = 0", "", ""},
		row{"b = true", "i", "i"},
		row{"while b", "i b", "i b"},
		row{"try", "i b", "i b"},
		row{"c = i / i", "i b", "i b"},
		row{"catch e", "i b", "i b"},
		row{"print i", "i b", "i b"},
		row{"end", "i b", "i b"},
		row{"end", "i b", "i b"})
}

// P5.1: the next line, and the end of the function.
func TestNextLine(t *testing.T) {
	isLive(t, "no lines")
	isLive(t, "one line", row{"a = b", "b", ""})
	isLive(t, "a line after the other",
		row{"a = 1", "d", "d"},
		row{"b = a", "a d", "a d"},
		row{"c = 2", "a b d", "a b d"},
		row{"a = a + b", "a b c d", "c d"},
		row{"c = a - c", "a c d", "d"},
		row{"print d", "d", ""})
}

// P5.1: nothing is live before a line that no way leads back from, though lines after it read.
func TestNoNextLine(t *testing.T) {
	isLive(t, "return",
		row{"return a", "a", ""},
		row{"print b", "b", ""})
	isLive(t, "throw",
		row{"b = 1", "a", "a"},
		row{"throw a", "a", ""},
		row{"print b", "b", ""})
	isLive(t, "return in a branch",
		row{"if c", "a b c", "a b"},
		row{"return a", "a", ""},
		row{"end", "b", "b"},
		row{"print b", "b", ""})
}

// P5.1: the ways of an if, with and without else.
func TestIf(t *testing.T) {
	isLive(t, "without else",
		row{"if c", "a b c", "a b"},
		row{"print a", "a b", "b"},
		row{"a = 1", "b", "b"},
		row{"end", "b", "b"},
		row{"print b", "b", ""})
	isLive(t, "with else",
		row{"if c", "a b c d", "a b d"},
		row{"print a", "a d", "d"},
		row{"else", "d", "d"},
		row{"print b", "b d", "d"},
		row{"end", "d", "d"},
		row{"print d", "d", ""})
	isLive(t, "at the end of the function",
		row{"if c", "a c", "a"},
		row{"print a", "a", ""},
		row{"end", "", ""})
	isLive(t, "empty parts",
		row{"if c", "a c", "a"},
		row{"else", "a", "a"},
		row{"end", "a", "a"},
		row{"print a", "a", ""})
}

// P5.1: a variable that is written on one way and not on the other, and one that is written on both.
func TestWrittenOnOneWay(t *testing.T) {
	isLive(t, "in the first part",
		row{"if c", "a c", "a"},
		row{"a = 1", "", ""},
		row{"end", "a", "a"},
		row{"print a", "a", ""})
	isLive(t, "in the second part",
		row{"if c", "a c", "a"},
		row{"else", "a", "a"},
		row{"a = 1", "", ""},
		row{"end", "a", "a"},
		row{"print a", "a", ""})
	isLive(t, "in both parts",
		row{"if c", "c", ""},
		row{"a = 1", "", ""},
		row{"else", "a", "a"},
		row{"a = 2", "", ""},
		row{"end", "a", "a"},
		row{"print a", "a", ""})
	isLive(t, "on the way to the next line alone",
		row{"try", "a", "a"},
		row{"a = call g", "a", "a"},
		row{"catch e", "a", "a"},
		row{"end", "a", "a"},
		row{"print a", "a", ""})
	isLive(t, "on the way to the catch alone",
		row{"try", "a", "a"},
		row{"b = call g", "a", "a"},
		row{"catch a", "a", "a"},
		row{"end", "a", "a"},
		row{"print a", "a", ""})
	isLive(t, "on both ways",
		row{"try", "", ""},
		row{"a = call g", "", ""},
		row{"catch a", "a", "a"},
		row{"end", "a", "a"},
		row{"print a", "a", ""})
}

// P5.1: the ways of a while, and loops in loops.
func TestWhile(t *testing.T) {
	isLive(t, "one loop",
		row{"while c", "a b c d", "a b c d"},
		row{"print a", "a b c d", "b c d"},
		row{"a = b", "b c d", "b c d"},
		row{"end", "a b c d", "a b c d"},
		row{"print d", "d", ""})
	isLive(t, "written before it is read",
		row{"while c", "b c", "b c"},
		row{"a = b", "b c", "b c"},
		row{"print a", "a b c", "b c"},
		row{"end", "b c", "b c"})
	isLive(t, "read before it is written, in the round after",
		row{"a = 1", "c", "c"},
		row{"while c", "a c", "a c"},
		row{"print a", "a c", "c"},
		row{"a = 2", "c", "c"},
		row{"end", "a c", "a c"})
	isLive(t, "without end",
		row{"c = true", "", ""},
		row{"while c", "c", "c"},
		row{"end", "c", "c"})
}

// P5.1: what the outermost loop reads at its end is live in all of the inner ones, and the other way round.
func TestLoopsInLoops(t *testing.T) {
	isLive(t, "three loops",
		row{"while a", "a b c x y", "a b c x y"},
		row{"while b", "a b c x y", "a b c x y"},
		row{"while c", "a b c x y", "a b c x y"},
		row{"print x", "a b c x y", "a b c y"},
		row{"x = y", "a b c y", "a b c y"},
		row{"end", "a b c x y", "a b c x y"},
		row{"end", "a b c x y", "a b c x y"},
		row{"z = 1", "a b c x", "a b c x"},
		row{"y = z", "a b c x z", "a b c x"},
		row{"end", "a b c x y", "a b c x y"})
	isLive(t, "one after the other",
		row{"while a", "a b x", "a b x"},
		row{"y = x", "a b x", "a b x"},
		row{"end", "a b x", "a b x"},
		row{"x = 1", "b", "b"},
		row{"while b", "b x", "b x"},
		row{"y = x", "b x", "b x"},
		row{"end", "b x", "b x"})
	isLive(t, "handed on from round to round",
		row{"while a", "a b c d e f", "a b c d e f"},
		row{"print f", "a b c d e f", "a b c d e"},
		row{"f = e", "a b c d e", "a b c d"},
		row{"e = d", "a b c d f", "a b c f"},
		row{"d = c", "a b c e f", "a b e f"},
		row{"c = b", "a b d e f", "a d e f"},
		row{"b = a", "a c d e f", "a c d e f"},
		row{"end", "a b c d e f", "a b c d e f"})
}

// P5.1: an exception goes to the catch around it, whose variable it writes.
func TestThrowToCatch(t *testing.T) {
	isLive(t, "throw",
		row{"try", "a b d", "a b d"},
		row{"throw a", "a b d", "b d"},
		row{"catch e", "d", "d"},
		row{"print e", "b d e", "b d"},
		row{"print b", "b d", "d"},
		row{"end", "d", "d"},
		row{"print d", "d", ""})
	isLive(t, "out of an if and a while",
		row{"try", "a b c d", "a b c d"},
		row{"while c", "a b c d", "a b c d"},
		row{"if d", "a b c d", "a b c d"},
		row{"print a", "a b c d", "a b c d"},
		row{"end", "a b c d", "a b c d"},
		row{"end", "a b c d", "a b c d"},
		row{"catch e", "", ""},
		row{"print b", "b", ""},
		row{"end", "", ""})
	isLive(t, "out of a catch",
		row{"try", "a b", "a b"},
		row{"try", "a b", "a b"},
		row{"a = call g", "a b", "a b"},
		row{"catch e", "", ""},
		row{"print b", "a b", "a"},
		row{"end", "", ""},
		row{"catch x", "", ""},
		row{"print x", "a x", "a"},
		row{"print a", "a", ""},
		row{"end", "", ""})
}

// P5.1: an exception goes to the finally around it, and writes nothing on this way.
func TestThrowToFinally(t *testing.T) {
	isLive(t, "out of a try",
		row{"try", "a b c", "a b c"},
		row{"throw a", "a b c", "b c"},
		row{"finally", "b c", "b c"},
		row{"print b", "b c", "c"},
		row{"end", "c", "c"},
		row{"print c", "c", ""})
	isLive(t, "out of a catch",
		row{"try", "a b", "a b"},
		row{"yield", "a b", "a b"},
		row{"catch e", "a b", "a b"},
		row{"print e", "a b e", "a b"},
		row{"a = 1", "b", "b"},
		row{"finally", "a b", "a b"},
		row{"print b", "a b", "a"},
		row{"end", "a", "a"},
		row{"print a", "a", ""})
	isLive(t, "not to the finally of the part that it comes from",
		row{"try", "a", "a"},
		row{"finally", "a", "a"},
		row{"print a", "a", ""},
		row{"end", "", ""})
}

// P5.1: a return goes to the finally around it, not to the catch.
func TestReturnToFinally(t *testing.T) {
	isLive(t, "finally alone",
		row{"try", "a b c", "a b c"},
		row{"return a", "a b c", "b c"},
		row{"finally", "b c", "b c"},
		row{"print b", "b c", "c"},
		row{"end", "c", "c"},
		row{"print c", "c", ""})
	// The throw of a return goes to the catch, where b is written.
	isLive(t, "catch and finally",
		row{"try", "a b", "a b"},
		row{"return a", "a b", "b"},
		row{"catch e", "b", "b"},
		row{"b = 1", "", ""},
		row{"finally", "b", "b"},
		row{"print b", "b", ""},
		row{"end", "", ""})
	isLive(t, "out of an inner try",
		row{"try", "a b", "a b"},
		row{"try", "a b", "a b"},
		row{"return a", "a b", "b"},
		row{"catch e", "b", "b"},
		row{"b = 1", "", ""},
		row{"end", "b", "b"},
		row{"finally", "b", "b"},
		row{"print b", "b", ""},
		row{"end", "", ""})
	isLive(t, "out of a finally part",
		row{"try", "a b", "a b"},
		row{"try", "a b", "a b"},
		row{"yield", "a b", "a b"},
		row{"finally", "a b", "a b"},
		row{"return a", "a b", "b"},
		row{"end", "b", "b"},
		row{"b = 1", "", ""},
		row{"catch e", "b", "b"},
		row{"b = 2", "", ""},
		row{"finally", "b", "b"},
		row{"print b", "b", ""},
		row{"end", "", ""})
	isLive(t, "no finally",
		row{"try", "a", "a"},
		row{"return a", "a", ""},
		row{"catch e", "b", "b"},
		row{"b = 1", "", ""},
		row{"end", "b", "b"},
		row{"print b", "b", ""})
}

// P5.1: at the end of a block with a finally, what is pending goes on to the next finally.
func TestEndToFinally(t *testing.T) {
	isLive(t, "without a catch",
		row{"try", "a", "a"},
		row{"try", "a", "a"},
		row{"finally", "a", "a"},
		row{"end", "a", "a"},
		row{"a = 1", "", ""},
		row{"finally", "a", "a"},
		row{"print a", "a", ""},
		row{"end", "", ""})
	// An exception goes to the catch, where a is written, and a return to the finally.
	isLive(t, "past a catch",
		row{"try", "a", "a"},
		row{"try", "a", "a"},
		row{"yield", "a", "a"},
		row{"finally", "a", "a"},
		row{"yield", "a", "a"},
		row{"end", "a", "a"},
		row{"a = 1", "", ""},
		row{"catch e", "a", "a"},
		row{"a = 2", "", ""},
		row{"finally", "a", "a"},
		row{"print a", "a", ""},
		row{"end", "", ""})
	isLive(t, "of a block with a catch",
		row{"try", "a", "a"},
		row{"try", "a", "a"},
		row{"catch x", "a", "a"},
		row{"finally", "a", "a"},
		row{"end", "a", "a"},
		row{"a = 1", "", ""},
		row{"finally", "a", "a"},
		row{"print a", "a", ""},
		row{"end", "", ""})
	isLive(t, "no way to its own finally",
		row{"try", "a", "a"},
		row{"finally", "a", "a"},
		row{"print a", "a", ""},
		row{"a = 1", "", ""},
		row{"end", "", ""})
}

// P5.1: at the end of a block with a finally, what is pending goes on to the next catch, whose variable it writes.
func TestEndToCatch(t *testing.T) {
	isLive(t, "another variable",
		row{"try", "a", "a"},
		row{"try", "a", "a"},
		row{"finally", "a", "a"},
		row{"end", "a", "a"},
		row{"a = 1", "", ""},
		row{"catch e", "", ""},
		row{"print a", "a e", "e"},
		row{"print e", "e", ""},
		row{"end", "", ""})
	isLive(t, "the variable of the catch",
		row{"try", "", ""},
		row{"try", "", ""},
		row{"finally", "", ""},
		row{"end", "", ""},
		row{"yield", "", ""},
		row{"catch a", "", ""},
		row{"print a", "a", ""},
		row{"end", "", ""})
	isLive(t, "out of a loop",
		row{"try", "a c", "a c"},
		row{"while c", "a c", "a c"},
		row{"try", "a c", "a c"},
		row{"finally", "a c", "a c"},
		row{"end", "a c", "a c"},
		row{"end", "a c", "a c"},
		row{"catch e", "", ""},
		row{"print a", "a", ""},
		row{"end", "", ""})
}

// P5.1: other ends lead neither to a finally nor to a catch.
func TestOtherEnds(t *testing.T) {
	isLive(t, "catch",
		row{"try", "", ""},
		row{"try", "", ""},
		row{"yield", "", ""},
		row{"catch x", "", ""},
		row{"end", "", ""},
		row{"a = 1", "", ""},
		row{"catch e", "", ""},
		row{"print a", "a", ""},
		row{"end", "", ""})
	isLive(t, "catch and finally",
		row{"try", "c", "c"},
		row{"while c", "c", "c"},
		row{"end", "c", "c"},
		row{"if c", "c", ""},
		row{"end", "", ""},
		row{"try", "", ""},
		row{"catch x", "", ""},
		row{"end", "", ""},
		row{"a = 1", "", ""},
		row{"catch e", "a", "a"},
		row{"a = 2", "", ""},
		row{"finally", "a", "a"},
		row{"print a", "a", ""},
		row{"end", "", ""})
}

// The ways of a line are gone through one by one: whoever stops is not given another one.
func TestWaysStop(t *testing.T) {
	p := mainOf(t, "try", "while a", "if b", "try", "return c", "finally", "end", "end", "end", "a = b", "yield", "throw a", "catch e", "finally", "end")
	f := function{p, info(t, p), 0}
	for line, want := range []int{1, 3, 3, 1, 2, 1, 3, 1, 1, 2, 1, 1, 1, 1, 1} {
		for most := range want + 1 {
			count := 0
			for range f.ways(line) {
				count++
				if count > most {
					break
				}
			}
			if count != min(most+1, want) {
				t.Errorf("line %d: %d ways of %d", line, count, want)
			}
		}
	}
}

// P5.1: each function has rows of its own.
func TestFunctions(t *testing.T) {
	p := parsed(t, "func f a b\nreturn b\nendfunc\nfunc none\nendfunc\nfunc main\nx = 1\ny = 2\nx = call f x y\nendfunc\nfunc more z\nendfunc\n")
	i := info(t, p)
	for fun, want := range [][][]bool{
		{{false, true}, {false, false}},
		{nil},
		{{false, false}, {true, false}, {true, true}, {false, false}},
		{{false}},
	} {
		if got := Before(p, i, fun); !sameRows(got, want) {
			t.Errorf("Before of %d: %v", fun, got)
		}
	}
	for fun, want := range [][][]bool{
		{{false, false}},
		nil,
		{{false, false}, {true, false}, {false, false}},
		nil,
	} {
		if got := Across(p, i, fun); !sameRows(got, want) {
			t.Errorf("Across of %d: %v", fun, got)
		}
	}
}

// P5.1: as many loops in loops as a function can have: what the outermost one reads is live in the innermost one.
func TestGreatestLoop(t *testing.T) {
	rows := []row{{"while a", "a b", "a b"}}
	for range 28 {
		rows = append(rows, row{"while b", "a b", "a b"})
	}
	rows = append(rows, row{"yield", "a b", "a b"}, row{"c = 1", "a b", "a b"})
	for range 29 {
		rows = append(rows, row{"end", "a b", "a b"})
	}
	if len(rows) != api.MaxLines {
		t.Fatalf("%d lines", len(rows))
	}
	isLive(t, "29 loops", rows...)
}

// P5.1: as many slots as a function can have, each of them read by a line of its own.
func TestMostSlots(t *testing.T) {
	f := api.Func{Name: "f"}
	for n := range api.MaxSlots {
		name := "v" + string([]byte{byte('a' + n)})
		f.Params = append(f.Params, name)
		f.Lines = append(f.Lines, api.Line{Op: api.OpPrint, A: name})
	}
	p := api.Program{Funcs: []api.Func{{Name: "main"}, f}}
	i := info(t, p)
	before, across := Before(p, i, 1), Across(p, i, 1)
	for line := range f.Lines {
		for slot := range f.Params {
			if before[line][slot] != (slot >= line) || across[line][slot] != (slot > line) {
				t.Errorf("line %d, slot %d: %t, %t", line, slot, before[line][slot], across[line][slot])
			}
		}
	}
}
