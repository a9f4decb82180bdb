package shape

import (
	"slices"
	"testing"

	"facsimile/api"
)

// spare returns the names in a slice with room for more, and checks later that nothing in it was changed.
func spare(t *testing.T, names ...string) ([]string, func()) {
	all := append(slices.Clone(names), "room", "room")
	kept := slices.Clone(all)
	return all[:len(names)], func() {
		t.Helper()
		if !slices.Equal(all, kept) {
			t.Errorf("%q became %q", kept, all)
		}
	}
}

// R3: arguments are not changed.
func TestArgumentsStay(t *testing.T) {
	first, check := spare(t, "b", "a", "b")
	second, checkSecond := spare(t, many(70)...)
	classes := []api.Class{{Name: "P", Fields: first}, {Name: "Q", Fields: second}, {Name: "R"}}
	x := New(classes[:2])
	for range 3 {
		x.Add(0, "c")
		x.Add(0, "d")
		x.Split(0)
		x.Merge(0, x.Root(0))
		x.Text()
		check()
		checkSecond()
	}
	if classes[0].Name != "P" || classes[1].Name != "Q" || classes[2].Name != "R" || len(classes[0].Fields) != 3 || len(classes[1].Fields) != 70 || classes[2].Fields != nil {
		t.Errorf("%v", classes)
	}
	names, check := spare(t, "z", "y", "x")
	made, _ := x.Make(0, names)
	x.Find(0, names)
	x.Make(0, names)
	x.Add(made, "w")
	x.Add(made, "v")
	check()
}

// R3: a tree keeps nothing of its arguments.
func TestTreeKeepsNoArguments(t *testing.T) {
	fields := []string{"x", "y"}
	classes := []api.Class{{Fields: fields}}
	x := New(classes)
	names := []string{"p", "q"}
	gives(t, 1)(x.Make(0, names))
	fields[0], names[1] = "changed", "changed"
	classes[0].Fields = nil
	named(t, x, 0, "x", "y")
	named(t, x, 1, "p", "q")
	gives(t, 1)(x.Make(0, []string{"p", "q"}))
	reads(t, x, "roots 0", "0 0 x y >", "1 0 p q >")
}

// R3: results share no memory with the tree, nor with each other.
func TestResultsAreNew(t *testing.T) {
	x := tree("x y")
	gives(t, 1)(x.Add(0, "z"))
	gives(t, 2)(x.Split(1))
	gives(t, 3)(x.Split(1))
	merges(t, x, 2, 1)
	for shape := range 4 {
		a, b := x.Names(shape), x.Names(shape)
		want := slices.Clone(a)
		full := a[:cap(a)]
		for n := range full {
			full[n] = "changed"
		}
		if !slices.Equal(b, want) {
			t.Errorf("Names(%d) became %q", shape, b)
		}
	}
	reads(t, x, "roots 0", "0 0 x y > z:2", "1 0 x y z = 2", "2 0 x y z >", "3 0 x y z >")
}

// Shapes share no memory with each other.
func TestShapesDoNotDisturbEachOther(t *testing.T) {
	x := New([]api.Class{{Fields: append(make([]string, 0, 10), "x", "y", "z")}})
	gives(t, 1)(x.Make(0, append(make([]string, 0, 10), "p", "q", "r")))
	for n, name := range []string{"a", "b", "c"} {
		gives(t, 2*n+2)(x.Add(0, name))
		gives(t, 2*n+3)(x.Add(1, name))
	}
	gives(t, 8)(x.Split(2))
	gives(t, 9)(x.Add(2, "d"))
	gives(t, 10)(x.Add(8, "e"))
	named(t, x, 0, "x", "y", "z")
	named(t, x, 1, "p", "q", "r")
	for n, name := range []string{"a", "b", "c"} {
		named(t, x, 2*n+2, "x", "y", "z", name)
		named(t, x, 2*n+3, "p", "q", "r", name)
	}
	named(t, x, 8, "x", "y", "z", "a")
	named(t, x, 9, "x", "y", "z", "a", "d")
	named(t, x, 10, "x", "y", "z", "a", "e")
}

// R4: two trees have nothing in common.
func TestTwoTrees(t *testing.T) {
	classes := []api.Class{{Fields: []string{"x"}}}
	a, b := New(classes), New(classes)
	gives(t, 1)(a.Add(0, "y"))
	gives(t, 2)(a.Split(0))
	merges(t, a, 2, 0)
	reads(t, b, "roots 0", "0 0 x >")
	gives(t, 1)(b.Make(0, []string{"q"}))
	reads(t, a, "roots 2", "0 0 x = 2", "1 0 x y >", "2 0 x >")
}
