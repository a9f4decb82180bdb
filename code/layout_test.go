package code

import (
	"testing"
)

// P9.1: the examples of the chapter.
func TestExamples(t *testing.T) {
	makes(t, "x = true; while x; end", "const (0)", "false to 3 (1)", "jump to 1 (2)")
	makes(t, "try; x = 1; return x; finally; print x; end", "const (0 1)", "return (2)", "enter (3)", "print (4)", "leave (5)", "0-2 to 3 in -1 finally")
	makes(t, "if x; y = x; else; y = z; end; print y", "false to 3 (0)", "move (1)", "jump to 5 (2)", "move (3)", "nop (4)", "print (5)")
}

// P9.1: active lines alone.
func TestActiveLines(t *testing.T) {
	makes(t, "")
	makes(t, "yield", "yield (0)")
	makes(t, "a = 1; b = a; print b; return b; throw a", "const (0)", "move (1)", "print (2)", "return (3)", "throw (4)")
}

// P9.1: an if without else: the end waits for a line that is entered, or for the end of the function.
func TestIf(t *testing.T) {
	makes(t, "if a; yield; end", "false to 3 (0)", "yield (1)", "nop (2)")
	makes(t, "if a; yield; end; print a", "false to 3 (0)", "yield (1)", "nop (2)", "print (3)")
	makes(t, "if a; end", "false to 2 (0)", "nop (1)")
	makes(t, "if a; end; print a", "false to 2 (0)", "nop (1)", "print (2)")
	makes(t, "print a; if a; end; if a; end", "print (0)", "false to 3 (1)", "nop (2)", "false to 5 (3)", "nop (4)")
	// Only the way past the outer if enters the line after both ends; that past the inner one enters the outer end.
	makes(t, "if a; if b; yield; end; end; print a", "false to 5 (0)", "false to 4 (1)", "yield (2)", "nop (3)", "nop (4)", "print (5)")
	makes(t, "if a; return a; end; throw a", "false to 3 (0)", "return (1)", "nop (2)", "throw (3)")
}

// P9.1: an if with else: the else never falls, even if its part is empty.
func TestElse(t *testing.T) {
	makes(t, "if a; else; end", "false to 2 (0)", "jump to 3 (1)", "nop (2)")
	makes(t, "if a; else; end; print a", "false to 2 (0)", "jump to 3 (1)", "nop (2)", "print (3)")
	makes(t, "if a; else; yield; end", "false to 2 (0)", "jump to 4 (1)", "yield (2)", "nop (3)")
	makes(t, "if a; yield; else; end; print a", "false to 3 (0)", "yield (1)", "jump to 4 (2)", "nop (3)", "print (4)")
	makes(t, "if a; throw a; else; return a; end; print a", "false to 3 (0)", "throw (1)", "jump to 5 (2)", "return (3)", "nop (4)", "print (5)")
}

// P9.1: an else jumps over all idle lines after its block, and its instruction has them.
func TestChainsOfElse(t *testing.T) {
	makes(t, "if a; if b; yield; else; print b; end; else; print a; end; yield",
		"false to 6 (0)", "false to 4 (1)", "yield (2)", "jump to 8 (3 6)", "print (4)", "jump to 8 (5 6)", "print (7)", "nop (8)", "yield (9)")
	makes(t, "if a; else; if b; else; yield; end; end; yield",
		"false to 2 (0)", "jump to 6 (1)", "false to 4 (2)", "jump to 6 (3 6)", "yield (4)", "nop (5 6)", "yield (7)")
	makes(t, "if a; yield; else; yield; end; try; try; yield; catch e; end; catch e; end",
		"false to 3 (0)", "yield (1)", "jump to 5 (2 5 6)", "yield (3)", "nop (4 5 6)", "yield (7)", "jump to 9 (8 10)", "jump to 9 (9 10)", "nop (11)", "5-6 to 7 in 1", "4-7 to 8 in 1")
	// At the end of the function.
	makes(t, "if a; if b; else; end; else; end", "false to 4 (0)", "false to 3 (1)", "jump to 5 (2 4)", "jump to 5 (3 4)", "nop (5)")
	makes(t, "while a; if a; if b; yield; else; end; else; end; end",
		"false to 7 (0)", "false to 6 (1)", "false to 5 (2)", "yield (3)", "jump to 0 (4 6 8)", "jump to 0 (5 6 8)", "jump to 0 (7 8)")
}

// P9.1: a while is entered from its end; a line before it that waits gets an instruction of its own.
func TestWhile(t *testing.T) {
	makes(t, "while a; end", "false to 2 (0)", "jump to 0 (1)")
	makes(t, "while a; end; yield", "false to 2 (0)", "jump to 0 (1)", "yield (2)")
	makes(t, "while a; a = b; end; while b; end", "false to 3 (0)", "move (1)", "jump to 0 (2)", "false to 5 (3)", "jump to 3 (4)")
	makes(t, "try; while a; end; catch e; end", "nop (0)", "false to 3 (1)", "jump to 1 (2)", "jump to 5 (3)", "nop (4)", "1-3 to 4 in 1")
	makes(t, "if a; end; while a; end", "false to 2 (0)", "nop (1)", "false to 4 (2)", "jump to 2 (3)")
	makes(t, "while a; return a; end; throw a", "false to 3 (0)", "return (1)", "jump to 0 (2)", "throw (3)")
}

// P9.1: loops in loops.
func TestLoopsInLoops(t *testing.T) {
	makes(t, "while a; while b; while c; end; end; end", "false to 6 (0)", "false to 5 (1)", "false to 4 (2)", "jump to 2 (3)", "jump to 1 (4)", "jump to 0 (5)")
	makes(t, "while a; if b; while c; yield; end; end; end; yield",
		"false to 7 (0)", "false to 6 (1)", "false to 5 (2)", "yield (3)", "jump to 2 (4)", "nop (5)", "jump to 0 (6)", "yield (7)")
	makes(t, "while a; yield; while b; yield; end; yield; end", "false to 7 (0)", "yield (1)", "false to 5 (2)", "yield (3)", "jump to 2 (4)", "yield (5)", "jump to 0 (6)")
}

// P9.1: lines wait before an active line, before one that is entered, before an idle one that does not fall, and at the end of the function.
func TestLinesThatWait(t *testing.T) {
	makes(t, "try; yield; catch e; end", "yield (0 1)", "jump to 3 (2)", "nop (3)", "0-1 to 2 in 0")
	makes(t, "try; try; try; yield; catch e; end; catch e; end; catch e; end",
		"yield (0 1 2 3)", "jump to 5 (4 6 8)", "jump to 5 (5 6 8)", "jump to 5 (7 8)", "nop (9)", "0-1 to 2 in 0", "0-2 to 3 in 0", "0-3 to 4 in 0")
	makes(t, "if a; try; catch e; end; else; end",
		"false to 3 (0)", "jump to 4 (1 2 4)", "jump to 4 (3 4)", "nop (5)")
	makes(t, "yield; try; catch e; finally; end; try; catch e; finally; yield; end",
		"yield (0)", "nop (1 2)", "enter (3)", "leave (4)", "nop (5 6)", "enter (7)", "yield (8)", "leave (9)")
	makes(t, "if a; if a; if a; yield; end; end; end", "false to 7 (0)", "false to 6 (1)", "false to 5 (2)", "yield (3)", "nop (4)", "nop (5)", "nop (6)")
	makes(t, "try; yield; catch e; try; yield; catch e; end; end; print e",
		"yield (0 1)", "jump to 5 (2)", "yield (3 4)", "jump to 5 (5 7)", "nop (6 7)", "print (8)", "2-3 to 4 in 0", "0-1 to 2 in 0")
}

// P9.1: the line after a catch is entered, but not that after a try.
func TestLineAfterCatch(t *testing.T) {
	makes(t, "try; yield; catch e; print e; end; yield", "yield (0 1)", "jump to 4 (2)", "print (3)", "nop (4)", "yield (5)", "0-1 to 2 in 0")
	makes(t, "try; catch e; print e; end", "jump to 3 (0 1)", "print (2)", "nop (3)")
	makes(t, "try; catch e; try; catch f; end; end", "jump to 3 (0 1)", "jump to 3 (2 3 5)", "nop (4 5)")
	makes(t, "try; catch e; end", "jump to 2 (0 1)", "nop (2)")
	makes(t, "try; yield; catch e; if e; end; end", "yield (0 1)", "jump to 5 (2)", "false to 4 (3)", "nop (4)", "nop (5)", "0-1 to 2 in 0")
}

// P9.1: a catch falls if its part is empty and there is a finally; then both are idle lines that wait, as the finally is entered.
func TestCatchThatFalls(t *testing.T) {
	makes(t, "try; yield; catch e; finally; yield; end", "yield (0 1)", "nop (2)", "enter (3)", "yield (4)", "leave (5)", "0-1 to 2 in 0", "0-1 to 3 in -1 finally")
	makes(t, "try; yield; catch e; yield; finally; end", "yield (0 1)", "jump to 3 (2)", "yield (3)", "enter (4)", "leave (5)", "0-1 to 2 in 0", "0-1 to 4 in -1 finally", "2-3 to 4 in -1 finally")
	makes(t, "try; catch e; finally; end", "nop (0 1)", "enter (2)", "leave (3)")
	makes(t, "try; catch e; if e; end; finally; end", "jump to 3 (0 1)", "false to 3 (2)", "nop (3)", "enter (4)", "leave (5)", "1-3 to 4 in -1 finally")
}

// P9.1: finally and its end are active; what comes before a finally that is not entered has its instruction.
func TestFinally(t *testing.T) {
	makes(t, "try; finally; end", "enter (0 1)", "leave (2)")
	makes(t, "try; finally; end; yield", "enter (0 1)", "leave (2)", "yield (3)")
	makes(t, "try; if a; end; finally; end", "false to 2 (0 1)", "nop (2)", "enter (3)", "leave (4)", "0-2 to 3 in -1 finally")
	makes(t, "try; yield; finally; try; finally; end; end", "yield (0 1)", "enter (2)", "enter (3 4)", "leave (5)", "leave (6)", "0-1 to 2 in -1 finally")
	makes(t, "try; finally; if a; else; end; end", "enter (0 1)", "false to 3 (2)", "jump to 4 (3)", "nop (4)", "leave (5)")
}
