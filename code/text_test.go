package code

import (
	"math"
	"strings"
	"testing"

	"facsimile/api"
)

// reads checks the lines of the text of a code.
func reads(t *testing.T, c api.Code, lines ...string) {
	t.Helper()
	want := strings.Join(lines, "\n")
	if len(lines) > 0 {
		want += "\n"
	}
	if got := Text(c); got != want {
		t.Errorf("Text:\n%s\nwant\n%s", got, want)
	}
}

// P9.4: the text of a whole program.
func TestTextOfProgram(t *testing.T) {
	reads(t, compiled(t, parsed(t, sample)),
		"class P f g", "method get h", "method put two", "class Q", "class R x", "method get two",
		"func two 2 3", "ins 22 2 -1 -1 &2 0 0", "ins 102 4 2 -1 unset 0 1", "ins 35 0 -1 -1 unset 0 2", "ins 101 6 -1 -1 unset 0 3", "ins 35 1 -1 -1 unset 0 4", "ins 100 -1 -1 -1 unset 0 5",
		"func main 0 3", "ins 1 0 -1 -1 true 0 0", "ins 102 9 0 -1 unset 0 1", "ins 22 1 -1 -1 &0 2 0 0 2 3", "ins 101 5 -1 -1 unset 0 4", "ins 29 2 -1 -1 unset 0 5", "ins 103 -1 -1 -1 unset 0 6", "ins 29 1 -1 -1 unset 0 7", "ins 104 -1 -1 -1 unset 0 8", "ins 101 1 -1 -1 unset 0 9",
		"on 2 3 4 2 0", "on 2 3 6 -1 1", "on 4 5 6 -1 1",
		"func g 0 0",
		"func h 1 2", "ins 23 1 -1 -1 &0 1 0 0", "ins 32 -1 0 -1 &0 2 1 0 1")
}

// P9.4: codes that have nothing of one kind.
func TestTextOfLittle(t *testing.T) {
	reads(t, api.Code{})
	reads(t, api.Code{Classes: []api.Class{}, Names: []string{}, Funcs: []api.CodeFunc{}})
	reads(t, api.Code{Names: []string{"main", "f"}})
	reads(t, api.Code{Classes: []api.Class{{}, {Name: "P", Fields: []string{}, Methods: []api.Method{}}}}, "class ", "class P")
	reads(t, api.Code{Classes: []api.Class{{Name: "P", Methods: []api.Method{{Name: "m", Func: "f"}}}}}, "class P", "method m f")
	reads(t, api.Code{Names: []string{"f"}, Funcs: []api.CodeFunc{{Params: 1, Slots: 2}}}, "func f 1 2")
	reads(t, api.Code{Names: []string{"f"}, Funcs: []api.CodeFunc{{Handlers: []api.Handler{{}}}}}, "func f 0 0", "on 0 0 0 0 0")
	reads(t, api.Code{Names: []string{"f"}, Funcs: []api.CodeFunc{{Ins: []api.Instr{{}}}}}, "func f 0 0", "ins 0 0 0 0 unset 0")
}

// P9.4: fewer and more names than functions.
func TestTextOfNames(t *testing.T) {
	funcs := []api.CodeFunc{{Params: 1}, {Slots: 2}, {Params: 3, Ins: []api.Instr{{Op: 33}}}}
	reads(t, api.Code{Funcs: funcs}, "func 1 0", "func 0 2", "func 3 0", "ins 33 0 0 0 unset 0")
	reads(t, api.Code{Names: []string{"a"}, Funcs: funcs}, "func a 1 0", "func 0 2", "func 3 0", "ins 33 0 0 0 unset 0")
	reads(t, api.Code{Names: []string{"a", "b"}, Funcs: funcs}, "func a 1 0", "func b 0 2", "func 3 0", "ins 33 0 0 0 unset 0")
	reads(t, api.Code{Names: []string{"a", "b", "c"}, Funcs: funcs}, "func a 1 0", "func b 0 2", "func c 3 0", "ins 33 0 0 0 unset 0")
	reads(t, api.Code{Names: []string{"a", "b", "c", "d", "e"}, Funcs: funcs}, "func a 1 0", "func b 0 2", "func c 3 0", "ins 33 0 0 0 unset 0")
}

// P9.4: names are written as they are, empty ones too.
func TestTextOfNamesAsTheyAre(t *testing.T) {
	reads(t, api.Code{Names: []string{"", "a b", "\xff\x00"}, Funcs: make([]api.CodeFunc, 3)}, "func  0 0", "func a b 0 0", "func \xff\x00 0 0")
	reads(t, api.Code{Classes: []api.Class{{Name: "x y", Fields: []string{"", "a", ""}, Methods: []api.Method{{}, {Name: "a"}, {Func: "'"}}}}},
		"class x y  a ", "method  ", "method a ", "method  '")
}

// P9.4: the constants of instructions are values of all kinds; those that are not right have an empty text.
func TestTextOfConstants(t *testing.T) {
	for want, k := range map[string]api.Value{
		"unset": {}, "nil": {Kind: api.Nil}, "false": {Kind: api.Bool}, "true": {Kind: api.Bool, N: 1}, "-12": integer(-12),
		"'it''s a'": str("it's a"), "''": str(""), "@7": {Kind: api.Ref, N: 7}, "&23": funOf(23),
		"": {Kind: api.Bool, N: 2},
	} {
		reads(t, api.Code{Funcs: []api.CodeFunc{{Ins: []api.Instr{{Op: 1, A: 2, B: 3, C: 4, K: k, Args: []int{5}, Lines: []int{6}}}}}}, "func 0 0", "ins 1 2 3 4 "+want+" 1 5 6")
	}
	reads(t, api.Code{Funcs: []api.CodeFunc{{Ins: []api.Instr{{K: funOf(24)}, {K: str("\n")}, {K: api.Value{Kind: 9}}}}}}, "func 0 0", "ins 0 0 0 0  0", "ins 0 0 0 0  0", "ins 0 0 0 0  0")
}

// P9.4: numbers are decimal, negative ones and great ones too; Args and Lines are told apart by how many Args there are.
func TestTextOfNumbers(t *testing.T) {
	c := api.Code{Names: []string{"f"}, Funcs: []api.CodeFunc{{
		Params: -1, Slots: math.MaxInt,
		Ins: []api.Instr{
			{Op: -5, A: math.MinInt, B: -1, C: 1000, Args: []int{-1, 20, math.MaxInt}, Lines: []int{0, -7, 8}},
			{Args: []int{1, 2, 3}}, {Lines: []int{1, 2, 3}}, {Args: []int{1}, Lines: []int{2, 3}},
		},
		Handlers: []api.Handler{{From: -1, To: math.MaxInt, Target: math.MinInt, Slot: -20, Finally: true}, {From: 1, To: 2, Target: 3, Slot: 4}},
	}}}
	reads(t, c, "func f -1 9223372036854775807",
		"ins -5 -9223372036854775808 -1 1000 unset 3 -1 20 9223372036854775807 0 -7 8",
		"ins 0 0 0 0 unset 3 1 2 3", "ins 0 0 0 0 unset 0 1 2 3", "ins 0 0 0 0 unset 1 1 2 3",
		"on -1 9223372036854775807 -9223372036854775808 -20 1", "on 1 2 3 4 0")
}

// P9.4: the methods follow their class, and instructions and handlers their function.
func TestTextInOrder(t *testing.T) {
	c := api.Code{
		Classes: []api.Class{{Name: "B", Fields: []string{"z", "y"}, Methods: []api.Method{{Name: "n", Func: "g"}, {Name: "m", Func: "f"}}}, {Name: "A"}},
		Names:   []string{"g", "f"},
		Funcs: []api.CodeFunc{
			{Ins: []api.Instr{{Op: 2}, {Op: 1}}, Handlers: []api.Handler{{From: 2}, {From: 1}}},
			{Ins: []api.Instr{{Op: 3}}, Handlers: []api.Handler{{From: 3}}},
		},
	}
	reads(t, c, "class B z y", "method n g", "method m f", "class A",
		"func g 0 0", "ins 2 0 0 0 unset 0", "ins 1 0 0 0 unset 0", "on 2 0 0 0 0", "on 1 0 0 0 0",
		"func f 0 0", "ins 3 0 0 0 unset 0", "on 3 0 0 0 0")
}
