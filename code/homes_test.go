package code

import (
	"math"
	"testing"

	"facsimile/api"
)

// of returns a code whose function 1 has instructions with these Lines; the functions around it have none.
func of(rows ...[]int) api.Code {
	f := api.CodeFunc{}
	for _, lines := range rows {
		f.Ins = append(f.Ins, api.Instr{Lines: lines})
	}
	return api.Code{Funcs: []api.CodeFunc{{}, f, {}}}
}

// home checks where a line of the function 1 has its first home; nowhere, if pc is negative.
func home(t *testing.T, c api.Code, line, pc, k int) {
	t.Helper()
	ok := pc >= 0
	if !ok {
		pc, k = 0, 0
	}
	if gotPc, gotK, gotOk := Pc(c, api.Place{Fun: 1, Line: line}); gotPc != pc || gotK != k || gotOk != ok {
		t.Errorf("Pc of %d = %d, %d, %t, want %d, %d, %t", line, gotPc, gotK, gotOk, pc, k, ok)
	}
}

// stands checks which line of the function 1 stands in an instruction.
func stands(t *testing.T, c api.Code, pc, k, line int) {
	t.Helper()
	if at, ok := Place(c, 1, pc, k); !ok || at != (api.Place{Fun: 1, Line: line}) {
		t.Errorf("Place of %d, %d = %v, %t, want line %d", pc, k, at, ok, line)
	}
}

// empty checks that there is no line in an instruction.
func empty(t *testing.T, c api.Code, fun, pc, k int) {
	t.Helper()
	if at, ok := Place(c, fun, pc, k); ok || at != (api.Place{}) {
		t.Errorf("Place of %d, %d, %d = %v, %t", fun, pc, k, at, ok)
	}
}

// P9.2: the homes of all lines and of the end, in a function where lines stand in several instructions.
func TestHomesOfProgram(t *testing.T) {
	p := parsed(t, "func main\nendfunc\nfunc f a b\nif a\nif b\nyield\nelse\nprint b\nend\nelse\nprint a\nend\ntry\nyield\ncatch e\nend\nendfunc\n")
	c := compiled(t, p)
	// false (0), false (1), yield (2), jump (3 6 9), print (4), jump (5 6 9), print (7), nop (8 9), yield (10), jump (11), nop (12)
	for line, want := range [][2]int{{0, 0}, {1, 0}, {2, 0}, {3, 0}, {4, 0}, {5, 0}, {5, 1}, {6, 0}, {7, 0}, {7, 1}, {8, 0}, {9, 0}, {10, 0}, {11, 0}} {
		home(t, c, line, want[0], want[1])
		stands(t, c, want[0], want[1], line)
	}
	stands(t, c, 3, 1, 6)
	stands(t, c, 3, 2, 9)
	stands(t, c, 5, 2, 9)
	for _, line := range []int{-1, 14, math.MaxInt, math.MinInt} {
		home(t, c, line, -1, 0)
	}
	for _, at := range [][2]int{{-1, 0}, {0, -1}, {0, 1}, {3, 3}, {11, 1}, {11, -1}, {12, 0}, {10, 1}, {math.MaxInt, 0}, {math.MinInt, 0}, {0, math.MaxInt}, {0, math.MinInt}} {
		empty(t, c, 1, at[0], at[1])
	}
}

// P9.2: the end of a function without instructions, and of one whose instructions have no Lines.
func TestEndWithoutLines(t *testing.T) {
	for n, c := range []api.Code{of(), of(nil), of([]int{}, nil, nil)} {
		count := len(c.Funcs[1].Ins)
		home(t, c, 0, count, 0)
		stands(t, c, count, 0, 0)
		home(t, c, 1, -1, 0)
		home(t, c, -1, -1, 0)
		for pc := -1; pc < count+2; pc++ {
			for k := -1; k < 2; k++ {
				if pc != count || k != 0 {
					empty(t, c, 1, pc, k)
				}
			}
		}
		if at, ok := Place(c, 2, 0, 0); !ok || at != (api.Place{Fun: 2}) {
			t.Errorf("%d: the end of the function 2 is %v, %t", n, at, ok)
		}
		if pc, k, ok := Pc(c, api.Place{Fun: 2}); pc != 0 || k != 0 || !ok {
			t.Errorf("%d: the home of the end of the function 2 is %d, %d, %t", n, pc, k, ok)
		}
	}
}

// P9.2: numbers of functions that there are not.
func TestNoFunction(t *testing.T) {
	c := of([]int{0, 1})
	for _, fun := range []int{-1, 3, math.MaxInt, math.MinInt} {
		for line := range 3 {
			if pc, k, ok := Pc(c, api.Place{Fun: fun, Line: line}); pc != 0 || k != 0 || ok {
				t.Errorf("Pc in %d: %d, %d, %t", fun, pc, k, ok)
			}
			empty(t, c, fun, line, 0)
		}
	}
	empty(t, api.Code{}, 0, 0, 0)
	if _, _, ok := Pc(api.Code{}, api.Place{}); ok {
		t.Error("Pc of nothing")
	}
}

// P9.2: the first home counts; a line that does not follow the one before it has no home there, nor have those after it.
func TestLinesThatDoNotFollow(t *testing.T) {
	c := of([]int{4, 3, 4, 5}, nil, []int{1, 2, 3, 7, 8}, []int{3, 4, 5}, []int{3, 3, 4})
	home(t, c, 4, 0, 0)
	home(t, c, 3, 2, 2)
	home(t, c, 5, 3, 2)
	home(t, c, 1, 2, 0)
	home(t, c, 2, 2, 1)
	home(t, c, 7, -1, 0)
	home(t, c, 8, -1, 0)
	home(t, c, 9, 5, 0)
	home(t, c, 10, -1, 0)
	home(t, c, 0, -1, 0)
	home(t, c, 6, -1, 0)
	stands(t, c, 0, 1, 3)
	stands(t, c, 0, 3, 5)
	stands(t, c, 2, 4, 8)
	stands(t, c, 4, 2, 4)
	stands(t, c, 5, 0, 9)
	empty(t, c, 1, 1, 0)
}

// P9.2: a line stands twice one after the other: the second one is no home.
func TestLineTwice(t *testing.T) {
	c := of([]int{2, 2, 3})
	home(t, c, 2, 0, 0)
	home(t, c, 3, -1, 0)
	home(t, c, 4, 1, 0)
}

// P9.2: lines that are no lines of any program have homes too; the end is never negative.
func TestStrangeLines(t *testing.T) {
	c := of([]int{-3, -2}, []int{-9, -8, -7})
	home(t, c, -3, 0, 0)
	home(t, c, -2, 0, 1)
	home(t, c, -7, 1, 2)
	home(t, c, -1, -1, 0)
	home(t, c, 0, 2, 0)
	stands(t, c, 1, 0, -9)
	stands(t, c, 2, 0, 0)
	c = of([]int{-1, 0, 1})
	home(t, c, 1, 0, 2)
	home(t, c, 2, 1, 0)
	c = of([]int{math.MaxInt - 1}, []int{0})
	home(t, c, math.MaxInt, 2, 0)
	home(t, c, math.MaxInt-1, 0, 0)
	// What comes after the greatest int is the least one.
	c = of([]int{math.MaxInt, math.MinInt, 7})
	home(t, c, math.MaxInt, 0, 0)
	home(t, c, math.MinInt, 0, 1)
	home(t, c, 7, -1, 0)
	home(t, c, 8, 1, 0)
	stands(t, c, 1, 0, 8)
	home(t, of([]int{math.MaxInt}), 0, 1, 0)
}

// The way through homes can be left early.
func TestLeaveHomes(t *testing.T) {
	for most := range 5 {
		count := 0
		for k, line := range homes([]int{5, 6, 7, 9}) {
			if line != 5+k || k != count {
				t.Errorf("%d: %d", k, line)
			}
			count++
			if count > most {
				break
			}
		}
		if count != min(most+1, 3) {
			t.Errorf("%d homes, at most %d", count, most+1)
		}
	}
}
