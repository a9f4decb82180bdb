package check

import (
	"math"
	"reflect"
	"testing"

	"facsimile/api"
)

// P2.2: the numbers of slots, functions and classes; the first one counts.
func TestNumbers(t *testing.T) {
	p := parsed(t, "class A\nclass B\nclass A\nfunc f\nendfunc\nfunc g\nendfunc\nfunc f\nendfunc\nfunc B\nendfunc\n")
	for name, want := range map[string]int{"f": 0, "g": 1, "B": 3, "A": -1, "F": -1, "": -1, "f ": -1, "main": -1} {
		if got := Func(p, name); got != want {
			t.Errorf("Func(%q) = %d, want %d", name, got, want)
		}
	}
	for name, want := range map[string]int{"A": 0, "B": 1, "a": -1, "f": -1, "": -1} {
		if got := Class(p, name); got != want {
			t.Errorf("Class(%q) = %d, want %d", name, got, want)
		}
	}
	if Func(api.Program{}, "main") != -1 || Class(api.Program{}, "A") != -1 || Func(api.Program{}, "") != -1 {
		t.Error("numbers of an empty program")
	}
	i := api.Info{Slots: [][]string{{"a", "b", "a"}, nil, {"c"}}}
	for _, c := range []struct {
		fun  int
		name string
		want int
	}{
		{0, "a", 0}, {0, "b", 1}, {0, "c", -1}, {0, "", -1}, {1, "a", -1}, {2, "c", 0}, {2, "a", -1},
		{3, "a", -1}, {-1, "a", -1}, {math.MaxInt, "a", -1}, {math.MinInt, "a", -1},
	} {
		if got := Slot(i, c.fun, c.name); got != c.want {
			t.Errorf("Slot(%d, %q) = %d, want %d", c.fun, c.name, got, c.want)
		}
	}
	if Slot(api.Info{}, 0, "a") != -1 {
		t.Error("a slot of an empty Info")
	}
}

// P2.2: each slot of a program has its number.
func TestSlotsOfAProgram(t *testing.T) {
	i := info(t, parsed(t, sample))
	for f, names := range i.Slots {
		for n, s := range names {
			if got := Slot(i, f, s); got != n {
				t.Errorf("Slot(%d, %q) = %d, want %d", f, s, got, n)
			}
		}
	}
}

// R3, R4: the arguments stay as they are, results share nothing with them, nor with each other.
func TestNothingIsShared(t *testing.T) {
	text := "class A x\nmethod m f\nfunc f a b\nwhile a\nc = b\nend\nendfunc\nfunc g a b\nif a\nend\nendfunc\nfunc main\nendfunc\n"
	p := parsed(t, text)
	before := info(t, p)
	if !reflect.DeepEqual(p, parsed(t, text)) {
		t.Errorf("Check has changed its argument: %v", p)
	}
	for f := range p.Funcs {
		for n := range p.Funcs[f].Params {
			p.Funcs[f].Params[n] = "other"
		}
		for n := range p.Funcs[f].Lines {
			p.Funcs[f].Lines[n] = api.Line{}
		}
	}
	again := info(t, parsed(t, text))
	if !sameInfo(before, again) {
		t.Errorf("%v has changed with the argument, want %v", before, again)
	}
	for f := range before.Slots {
		for _, row := range [][]int{before.Ends[f], before.Parent[f]} {
			// What a row has room for belongs to nobody else.
			row = append(row, 99)
			for n := range row {
				row[n] = 99
			}
			if Slot(before, f, "a") != Slot(again, f, "a") {
				t.Errorf("slots of %d have changed", f)
			}
		}
	}
	if !sameInfo(again, info(t, parsed(t, text))) {
		t.Errorf("%v has changed with another result", again)
	}
}

// R1: nil and empty lists are the same.
func TestEmptyLists(t *testing.T) {
	p := api.Program{
		Classes: []api.Class{{Name: "A", Fields: []string{}, Methods: []api.Method{}}},
		Funcs:   []api.Func{{Name: "main", Params: []string{}, Lines: []api.Line{{Op: api.OpCall, A: "x", Name: "f", Args: []string{}}}}, {Name: "f", Lines: []api.Line{}}},
	}
	q := api.Program{
		Classes: []api.Class{{Name: "A"}},
		Funcs:   []api.Func{{Name: "main", Lines: []api.Line{{Op: api.OpCall, A: "x", Name: "f"}}}, {Name: "f"}},
	}
	if !sameInfo(info(t, p), info(t, q)) {
		t.Errorf("%v and %v", info(t, p), info(t, q))
	}
	isWrong(t, "an empty program", api.Program{Classes: []api.Class{}, Funcs: []api.Func{}}, api.Place{}, api.ErrMain)
}
