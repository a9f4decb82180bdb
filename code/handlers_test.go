package code

import (
	"math"
	"slices"
	"testing"

	"facsimile/api"
)

// handles checks the handlers alone that main with these lines has, as shown tells them.
func handles(t *testing.T, lines string, want ...string) {
	t.Helper()
	f := compiled(t, mainOf(t, lines)).Funcs[0]
	if got := shown(api.CodeFunc{Handlers: f.Handlers}); !slices.Equal(got, want) {
		t.Errorf("%s: %q, want %q", lines, got, want)
	}
}

// P9.1: a catch, a finally, and both.
func TestHandlers(t *testing.T) {
	handles(t, "yield; if a; yield; else; yield; end; while a; yield; end")
	handles(t, "x = 1; try; yield; yield; catch a; yield; end; yield", "1-3 to 4 in 1")
	handles(t, "x = 1; try; yield; yield; finally; yield; end; yield", "1-3 to 4 in -1 finally")
	handles(t, "x = 1; try; yield; yield; catch a; yield; yield; finally; yield; end; yield", "1-3 to 4 in 1", "1-3 to 7 in -1 finally", "4-6 to 7 in -1 finally")
}

// P9.1: parts without lines, and so without instructions, have no handler; others go on from them.
func TestEmptyParts(t *testing.T) {
	handles(t, "try; catch a; end")
	handles(t, "try; finally; end")
	handles(t, "try; catch a; finally; end")
	handles(t, "try; catch a; yield; finally; end", "1-2 to 3 in -1 finally")
	handles(t, "try; yield; catch a; finally; end", "0-1 to 2 in 0", "0-1 to 3 in -1 finally")
	handles(t, "try; try; catch a; end; catch b; end", "0-1 to 2 in 1")
	handles(t, "try; try; finally; end; finally; end", "0-2 to 3 in -1 finally")
	handles(t, "try; yield; catch a; try; catch b; end; finally; end", "0-1 to 2 in 0", "0-1 to 5 in -1 finally", "2-4 to 5 in -1 finally")
}

// P9.1: blocks nested in each part, the inner ones first.
func TestNestedHandlers(t *testing.T) {
	handles(t, "try; try; yield; catch a; yield; finally; yield; end; catch b; try; yield; catch c; yield; finally; yield; end; finally; try; yield; catch d; yield; finally; yield; end; end",
		"0-1 to 2 in 0", "0-1 to 4 in -1 finally", "2-3 to 4 in -1 finally",
		"7-8 to 9 in 2", "7-8 to 11 in -1 finally", "9-10 to 11 in -1 finally",
		"14-15 to 16 in 3", "14-15 to 18 in -1 finally", "16-17 to 18 in -1 finally",
		"0-6 to 7 in 1", "0-6 to 14 in -1 finally", "7-13 to 14 in -1 finally")
}

// P9.1: blocks that are apart are in the order of their try, however deep they are.
func TestOrderOfHandlers(t *testing.T) {
	handles(t, "try; yield; catch a; end; try; yield; catch b; end", "0-1 to 2 in 0", "3-4 to 5 in 1")
	handles(t, "try; try; try; yield; catch a; end; catch b; end; try; yield; catch c; end; catch d; end; try; yield; catch e; end",
		"0-1 to 2 in 0", "0-2 to 3 in 1", "4-5 to 6 in 2", "0-6 to 7 in 3", "8-9 to 10 in 4")
	handles(t, "while a; if b; try; yield; catch c; end; else; try; yield; finally; end; end; end",
		"2-3 to 4 in 2", "5-6 to 7 in -1 finally")
}

// P9.1: an instruction whose last home is beyond a part does not belong to it, though its first lines do; one whose first lines are before it does.
func TestInstructionsAtBordersOfParts(t *testing.T) {
	// The end of the inner block is in the outer try part, but its instruction is that of the outer catch.
	makes(t, "try; try; yield; catch a; end; catch b; end", "yield (0 1 2)", "jump to 4 (3 5)", "jump to 4 (4 5)", "nop (6)", "0-1 to 2 in 0", "0-2 to 3 in 1")
	// The end of the if waits, and is the last home of an instruction that is in the part.
	makes(t, "try; if a; end; finally; end", "false to 2 (0 1)", "nop (2)", "enter (3)", "leave (4)", "0-2 to 3 in -1 finally")
	// The instruction of the else goes on in idle lines that are not in the part; its last home is.
	makes(t, "try; yield; catch a; if a; else; end; end", "yield (0 1)", "jump to 5 (2)", "false to 4 (3)", "jump to 5 (4 6)", "nop (5 6)", "0-1 to 2 in 0")
}

// P9.1: the slot is that of the variable of the catch, a parameter as well.
func TestSlotsOfHandlers(t *testing.T) {
	p := parsed(t, "func main\nendfunc\nfunc f a b c\ntry\ntry\nd = a\ncatch b\nend\ncatch e\nend\nendfunc\n")
	f := compiled(t, p).Funcs[1]
	want := []api.Handler{{From: 0, To: 1, Target: 2, Slot: 1}, {From: 0, To: 2, Target: 3, Slot: 4}}
	if !slices.Equal(f.Handlers, want) {
		t.Errorf("%+v", f.Handlers)
	}
}

// nested are handlers of two functions: some overlap, some have no instructions at all.
func nested() api.Code {
	return api.Code{Funcs: []api.CodeFunc{
		{Handlers: []api.Handler{
			{From: 2, To: 4, Target: 10, Slot: 1},
			{From: 2, To: 4, Target: 11, Slot: -1, Finally: true},
			{From: 3, To: 3, Target: 12},
			{From: 5, To: 4, Target: 13},
			{From: 1, To: 6, Target: 14, Slot: 2},
			{From: -2, To: 8, Target: 15, Slot: -7, Finally: true},
			{From: 0, To: 9, Target: 16, Finally: true},
			{From: math.MinInt, To: math.MaxInt, Target: 17},
		}},
		{},
		{Handlers: []api.Handler{{From: 0, To: 1, Target: 20, Slot: 3}}},
	}}
}

// P9.3: Catch at From, before To and at To, with returns and without; the first one of several handlers that fit.
func TestCatch(t *testing.T) {
	c := nested()
	for _, want := range []struct{ fun, pc, throws, returns int }{
		{0, math.MinInt, 7, -1}, {0, -3, 7, -1}, {0, -2, 5, 5}, {0, -1, 5, 5}, {0, 0, 5, 5},
		{0, 1, 4, 5}, {0, 2, 0, 1}, {0, 3, 0, 1}, {0, 4, 4, 5}, {0, 5, 4, 5}, {0, 6, 5, 5}, {0, 7, 5, 5},
		{0, 8, 6, 6}, {0, 9, 7, -1}, {0, math.MaxInt - 1, 7, -1}, {0, math.MaxInt, -1, -1},
		{1, 0, -1, -1}, {2, -1, -1, -1}, {2, 0, 0, -1}, {2, 1, -1, -1},
		{-1, 0, -1, -1}, {3, 0, -1, -1}, {math.MinInt, 0, -1, -1}, {math.MaxInt, 0, -1, -1},
	} {
		for returns, number := range map[bool]int{false: want.throws, true: want.returns} {
			var handler api.Handler
			if number >= 0 {
				handler = c.Funcs[want.fun].Handlers[number]
			}
			if h, ok := Catch(c, want.fun, want.pc, returns); h != handler || ok != (number >= 0) {
				t.Errorf("Catch of %d in %d, %t: %+v, %t", want.pc, want.fun, returns, h, ok)
			}
		}
	}
	if h, ok := Catch(api.Code{}, 0, 0, false); ok || h != (api.Handler{}) {
		t.Errorf("Catch of nothing: %+v, %t", h, ok)
	}
}
