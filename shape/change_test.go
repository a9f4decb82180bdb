package shape

import (
	"slices"
	"strings"
	"testing"

	"facsimile/api"
)

// P8.3: a new shape has the next number, the class, and the name after the names; it is there again for the same name.
func TestAdd(t *testing.T) {
	x := tree("x", "")
	gives(t, 2)(x.Add(0, "y"))
	gives(t, 3)(x.Add(1, "y"))
	gives(t, 4)(x.Add(0, "z"))
	gives(t, 5)(x.Add(2, "z"))
	gives(t, 6)(x.Add(4, "y"))
	for range 2 {
		gives(t, 2)(x.Add(0, "y"))
		gives(t, 3)(x.Add(1, "y"))
		gives(t, 4)(x.Add(0, "z"))
		gives(t, 5)(x.Add(2, "z"))
		gives(t, 6)(x.Add(4, "y"))
	}
	named(t, x, 0, "x")
	named(t, x, 1)
	named(t, x, 2, "x", "y")
	named(t, x, 3, "y")
	named(t, x, 4, "x", "z")
	named(t, x, 5, "x", "y", "z")
	named(t, x, 6, "x", "z", "y")
	numbers(t, "Class", x.Class, 0, 1, 0, 1, 0, 0, 0, -1)
	numbers(t, "Canon", x.Canon, 0, 1, 2, 3, 4, 5, 6, -1)
	numbers(t, "Root", x.Root, 0, 1, -1)
}

// P8.3: a name that is empty, or one of the names.
func TestAddNames(t *testing.T) {
	x := New([]api.Class{{Fields: []string{"a", "b", "b", ""}}})
	gives(t, 1)(x.Add(0, "c"))
	for _, name := range []string{"", "a", "b"} {
		refuses(t, x, api.ErrName)(x.Add(0, name))
		refuses(t, x, api.ErrName)(x.Add(1, name))
	}
	refuses(t, x, api.ErrName)(x.Add(1, "c"))
	refuses(t, tree(""), api.ErrName)(tree("").Add(0, ""))
	for n, name := range []string{"A", "aa", " ", "\n", "\x00", "a b", "é", strings.Repeat("c", 1000000)} {
		gives(t, n+2)(x.Add(1, name))
		named(t, x, n+2, "a", "b", "b", "", "c", name)
	}
}

// P8.3: Add does not look for shapes with the names to which no transition leads.
func TestAddMakesAnotherShape(t *testing.T) {
	x := tree("x")
	gives(t, 1)(x.Make(0, []string{"x", "y"}))
	gives(t, 2)(x.Add(0, "y"))
	gives(t, 3)(x.Split(0))
	gives(t, 4)(x.Add(3, "y"))
	reads(t, x, "roots 3", "0 0 x > y:2", "1 0 x y >", "2 0 x y >", "3 0 x > y:4", "4 0 x y >")
}

// P8.3: there are up to 64 names.
func TestAddUpTo64Names(t *testing.T) {
	x := tree("f0")
	for n, name := range many(64)[1:] {
		gives(t, n+1)(x.Add(n, name))
	}
	named(t, x, 62, many(63)...)
	named(t, x, 63, many(64)...)
	refuses(t, x, api.ErrMany)(x.Add(63, "more"))
	refuses(t, x, api.ErrName)(x.Add(63, ""))
	refuses(t, x, api.ErrName)(x.Add(63, "f0"))
	refuses(t, x, api.ErrName)(x.Add(63, "f63"))
	gives(t, 64)(x.Add(62, "more"))
	gives(t, 63)(x.Add(62, "f63"))
	refuses(t, New([]api.Class{{Fields: many(64)}}), api.ErrMany)(New([]api.Class{{Fields: many(64)}}).Add(0, "more"))
	x = New([]api.Class{{Fields: many(70)}})
	refuses(t, x, api.ErrMany)(x.Add(0, "f64"))
	refuses(t, x, api.ErrMany)(x.Add(0, "f69"))
}

// P8.3: an alias uses the transitions of its canonical shape, and its own ones are not used any more.
func TestAddToAlias(t *testing.T) {
	x := tree("x")
	gives(t, 1)(x.Add(0, "y"))
	gives(t, 2)(x.Split(0))
	gives(t, 3)(x.Add(2, "z"))
	gives(t, 4)(x.Split(2))
	merges(t, x, 2, 0)
	gives(t, 3)(x.Add(0, "z"))
	gives(t, 5)(x.Add(0, "y"))
	gives(t, 5)(x.Add(2, "y"))
	merges(t, x, 4, 2)
	gives(t, 6)(x.Add(0, "z"))
	gives(t, 6)(x.Add(2, "z"))
	gives(t, 6)(x.Add(4, "z"))
	refuses(t, x, api.ErrName)(x.Add(0, "x"))
	reads(t, x, "roots 4", "0 0 x = 2", "1 0 x y >", "2 0 x = 4", "3 0 x z >", "4 0 x > z:6", "5 0 x y >", "6 0 x z >")
}

// P8.3: a transition to a shape that has become an alias since gives the canonical one.
func TestAddLeadsToAlias(t *testing.T) {
	x := tree("x")
	gives(t, 1)(x.Add(0, "y"))
	gives(t, 2)(x.Make(0, []string{"y"}))
	gives(t, 3)(x.Add(2, "x"))
	gives(t, 4)(x.Add(0, "z"))
	gives(t, 5)(x.Make(0, []string{"q"}))
	gives(t, 6)(x.Split(1))
	gives(t, 7)(x.Split(1))
	gives(t, 6)(x.Add(0, "y"))
	merges(t, x, 7, 6)
	gives(t, 7)(x.Add(0, "y"))
	merges(t, x, 1, 7)
	gives(t, 1)(x.Add(0, "y"))
	gives(t, 8)(x.Add(0, "w"))
	reads(t, x, "roots 0", "0 0 x > w:8 y:6 z:4", "1 0 x y >", "2 0 y > x:3", "3 0 y x >", "4 0 x z >", "5 0 q >", "6 0 x y = 7", "7 0 x y = 1", "8 0 x w >")
}

// full returns a tree of two classes with so many shapes; the root of the first class has a transition for y, which leads to an alias.
func full(t *testing.T, count int) *Tree {
	t.Helper()
	x := tree("x", "")
	gives(t, 2)(x.Add(0, "y"))
	gives(t, 3)(x.Split(2))
	merges(t, x, 2, 3)
	for x.Count() < count {
		gives(t, x.Count())(x.Split(x.Root(1)))
	}
	return x
}

// P8.3, P8.4, P8.6: Add, Make and Split make the shape number 199, and no further one.
func TestUpTo200Shapes(t *testing.T) {
	for _, grow := range []func(*Tree) (int, api.Errno){
		func(x *Tree) (int, api.Errno) { return x.Add(0, "z") },
		func(x *Tree) (int, api.Errno) { return x.Make(0, []string{"z"}) },
		func(x *Tree) (int, api.Errno) { return x.Split(0) },
	} {
		x := full(t, 199)
		gives(t, 199)(grow(x))
		for _, n := range []int{0, 1, 2, 3, 100, 199} {
			refuses(t, x, api.ErrMany)(x.Add(n, "new"))
			refuses(t, x, api.ErrMany)(x.Split(n))
		}
		refuses(t, x, api.ErrMany)(x.Make(0, []string{"new"}))
		refuses(t, x, api.ErrMany)(x.Make(1, []string{"x"}))
	}
}

// P8.3 to P8.6: what makes no shape is possible with 200 of them, and the other errors come first.
func TestWith200Shapes(t *testing.T) {
	x := full(t, 200)
	gives(t, 2)(x.Add(0, "y"))
	gives(t, 0)(x.Make(0, []string{"x"}))
	gives(t, 199)(x.Make(1, nil))
	gives(t, 2)(x.Make(0, []string{"x", "y"}))
	finds(t, 2)(x.Find(0, []string{"x", "y"}))
	refuses(t, x, api.ErrName)(x.Add(0, ""))
	refuses(t, x, api.ErrName)(x.Add(0, "x"))
	for _, n := range lost(200) {
		unknown(t, x, n)
	}
	refuses(t, x, api.ErrArg)(x.Make(0, []string{"new", "new"}))
	refuses(t, x, api.ErrArg)(x.Make(0, []string{""}))
	refuses(t, x, api.ErrArg)(x.Make(0, many(65)))
	refuses(t, x, api.ErrMany)(x.Make(0, many(64)))
	merges(t, x, 1, 199)
	numbers(t, "Root", x.Root, 0, 1)
	refuses(t, x, api.ErrMany)(x.Split(199))
}

// P8.4: Make gives the root, another shape, or a new one.
func TestMake(t *testing.T) {
	x := tree("x", "", "x y")
	gives(t, 0)(x.Make(0, []string{"x"}))
	gives(t, 1)(x.Make(1, nil))
	gives(t, 1)(x.Make(1, []string{}))
	gives(t, 2)(x.Make(2, []string{"x", "y"}))
	gives(t, 3)(x.Make(0, nil))
	gives(t, 4)(x.Make(0, []string{"x", "y"}))
	gives(t, 5)(x.Make(2, []string{"y", "x"}))
	gives(t, 6)(x.Add(0, "z"))
	gives(t, 6)(x.Make(0, []string{"x", "z"}))
	gives(t, 3)(x.Make(0, []string{}))
	gives(t, 4)(x.Make(0, []string{"x", "y"}))
	gives(t, 5)(x.Make(2, []string{"y", "x"}))
	gives(t, 0)(x.Make(0, []string{"x"}))
	reads(t, x, "roots 0 1 2", "0 0 x > z:6", "1 1 >", "2 2 x y >", "3 0 >", "4 0 x y >", "5 2 y x >", "6 0 x z >")
}

// P8.4: the root comes before shapes with lesser numbers, and these before new ones.
func TestMakeOfRoot(t *testing.T) {
	x := tree("x", "x")
	gives(t, 2)(x.Split(0))
	finds(t, 0)(x.Find(0, []string{"x"}))
	gives(t, 2)(x.Make(0, []string{"x"}))
	gives(t, 1)(x.Make(1, []string{"x"}))
	gives(t, 3)(x.Split(0))
	gives(t, 2)(x.Make(0, []string{"x"}))
	merges(t, x, 3, 2)
	finds(t, 0)(x.Find(0, []string{"x"}))
	gives(t, 3)(x.Make(0, []string{"x"}))
	merges(t, x, 0, 3)
	gives(t, 0)(x.Make(0, []string{"x"}))
	gives(t, 4)(x.Make(0, []string{"y"}))
	gives(t, 5)(x.Split(4))
	gives(t, 4)(x.Make(0, []string{"y"}))
	merges(t, x, 5, 4)
	gives(t, 5)(x.Make(0, []string{"y"}))
	reads(t, x, "roots 2 1", "0 0 x >", "1 1 x >", "2 0 x = 3", "3 0 x = 0", "4 0 y = 5", "5 0 y >")
}

// P8.4: names that are empty, there twice, or too many, whether a shape has them or not.
func TestMakeNames(t *testing.T) {
	twice := func(n, k int) []string {
		names := many(n)
		names[k] = names[n-1]
		return names
	}
	empty := func(n, k int) []string {
		names := many(n)
		names[k] = ""
		return names
	}
	for _, names := range [][]string{
		{""}, {"", ""}, {"x", ""}, {"", "x"}, {"x", "", "y"}, {"x", "x"}, {"x", "y", "x"}, {"y", "x", "x"}, {"x", "x", "y"},
		twice(64, 0), twice(64, 31), twice(64, 62), empty(64, 0), empty(64, 31), empty(64, 63), many(65), many(100000), slices.Repeat([]string{"x"}, 100000),
	} {
		x := New([]api.Class{{Fields: names}, {}})
		refuses(t, x, api.ErrArg)(x.Make(0, names))
		refuses(t, x, api.ErrArg)(x.Make(1, names))
	}
	x := New([]api.Class{{Fields: many(64)}, {}})
	gives(t, 0)(x.Make(0, many(64)))
	gives(t, 2)(x.Make(1, many(64)))
	gives(t, 2)(x.Make(1, many(64)))
	gives(t, 3)(x.Make(1, many(63)))
	named(t, x, 2, many(64)...)
	for n, name := range []string{" ", "\n", "\x00", ">", "é", strings.Repeat("c", 1000000)} {
		gives(t, n+4)(x.Make(1, []string{name, "x"}))
		named(t, x, n+4, name, "x")
	}
}

// P8.4: no transition leads to a shape that was made.
func TestMakeMakesNoTransition(t *testing.T) {
	x := tree("")
	gives(t, 1)(x.Make(0, []string{"x"}))
	gives(t, 2)(x.Add(0, "x"))
	gives(t, 1)(x.Make(0, []string{"x"}))
	gives(t, 3)(x.Add(1, "y"))
	reads(t, x, "roots 0", "0 0 > x:2", "1 0 x > y:3", "2 0 x >", "3 0 x y >")
}

// P8.5: the canonical shape of b becomes an alias of that of a.
func TestMerge(t *testing.T) {
	x := tree("x")
	for n := range 5 {
		gives(t, n+1)(x.Split(0))
	}
	for n := range 6 {
		merges(t, x, n, n)
	}
	numbers(t, "Canon", x.Canon, 0, 1, 2, 3, 4, 5, -1)
	merges(t, x, 1, 0)
	numbers(t, "Canon", x.Canon, 1, 1, 2, 3, 4, 5, -1)
	for _, a := range []int{0, 1} {
		for _, b := range []int{0, 1} {
			merges(t, x, a, b)
		}
	}
	numbers(t, "Canon", x.Canon, 1, 1, 2, 3, 4, 5, -1)
	merges(t, x, 2, 3)
	numbers(t, "Canon", x.Canon, 1, 1, 2, 2, 4, 5, -1)
	merges(t, x, 3, 0)
	numbers(t, "Canon", x.Canon, 2, 2, 2, 2, 4, 5, -1)
	merges(t, x, 4, 1)
	numbers(t, "Canon", x.Canon, 4, 4, 4, 4, 4, 5, -1)
	merges(t, x, 0, 5)
	numbers(t, "Canon", x.Canon, 4, 4, 4, 4, 4, 4, -1)
	numbers(t, "Root", x.Root, 4, -1)
	reads(t, x, "roots 1", "0 0 x = 1", "1 0 x = 2", "2 0 x = 4", "3 0 x = 2", "4 0 x >", "5 0 x = 4")
}

// P8.5: only shapes of the same class with the same names in the same order can be merged.
func TestMergeOfOthers(t *testing.T) {
	x := tree("x y", "x y", "", "y x")
	gives(t, 4)(x.Make(0, []string{"y", "x"}))
	gives(t, 5)(x.Make(0, []string{"x"}))
	gives(t, 6)(x.Make(0, nil))
	gives(t, 7)(x.Add(0, "z"))
	gives(t, 8)(x.Split(0))
	merges(t, x, 8, 0)
	for a := range 9 {
		for b := range 9 {
			if x.Canon(a) != x.Canon(b) {
				parts(t, x, a, b)
			}
		}
	}
}

// P8.5: the root of a class can become an alias, and another shape be merged into it.
func TestMergeOfRoots(t *testing.T) {
	x := tree("x")
	gives(t, 1)(x.Add(0, "y"))
	gives(t, 2)(x.Split(0))
	merges(t, x, 0, 2)
	numbers(t, "Root", x.Root, 0)
	gives(t, 1)(x.Add(x.Root(0), "y"))
	gives(t, 1)(x.Add(2, "y"))
	reads(t, x, "roots 2", "0 0 x > y:1", "1 0 x y >", "2 0 x = 0")
	gives(t, 3)(x.Split(2))
	numbers(t, "Root", x.Root, 3)
	merges(t, x, 3, 2)
	numbers(t, "Canon", x.Canon, 3, 1, 3, 3)
	gives(t, 4)(x.Add(0, "y"))
	reads(t, x, "roots 3", "0 0 x = 3", "1 0 x y >", "2 0 x = 0", "3 0 x > y:4", "4 0 x y >")
}

// P8.6: the new shape has the next number, the class and the names, and no transitions; those of the old one stay.
func TestSplit(t *testing.T) {
	x := tree("x", "q")
	gives(t, 2)(x.Add(0, "y"))
	gives(t, 3)(x.Add(2, "z"))
	gives(t, 4)(x.Split(2))
	named(t, x, 2, "x", "y")
	named(t, x, 4, "x", "y")
	numbers(t, "Class", x.Class, 0, 1, 0, 0, 0, -1)
	numbers(t, "Canon", x.Canon, 0, 1, 2, 3, 4, -1)
	numbers(t, "Root", x.Root, 0, 1, -1)
	reads(t, x, "roots 0 1", "0 0 x > y:4", "1 1 q >", "2 0 x y > z:3", "3 0 x y z >", "4 0 x y >")
	gives(t, 4)(x.Add(0, "y"))
	gives(t, 3)(x.Add(2, "z"))
	gives(t, 5)(x.Add(4, "z"))
	gives(t, 6)(x.Split(2))
	gives(t, 4)(x.Add(0, "y"))
	gives(t, 7)(x.Split(4))
	gives(t, 7)(x.Add(0, "y"))
	reads(t, x, "roots 0 1", "0 0 x > y:7", "1 1 q >", "2 0 x y > z:3", "3 0 x y z >", "4 0 x y > z:5", "5 0 x y z >", "6 0 x y >", "7 0 x y >")
}

// P8.6: the root of the class leads to the new shape, if it had the canonical shape; other roots do not.
func TestSplitOfRoots(t *testing.T) {
	x := tree("x", "x", "x")
	gives(t, 3)(x.Split(1))
	numbers(t, "Root", x.Root, 0, 3, 2, -1)
	gives(t, 4)(x.Split(1))
	numbers(t, "Root", x.Root, 0, 3, 2, -1)
	merges(t, x, 4, 3)
	numbers(t, "Root", x.Root, 0, 4, 2, -1)
	gives(t, 5)(x.Split(3))
	numbers(t, "Root", x.Root, 0, 5, 2, -1)
	gives(t, 6)(x.Split(2))
	numbers(t, "Root", x.Root, 0, 5, 6, -1)
	gives(t, 7)(x.Add(6, "y"))
	gives(t, 8)(x.Split(7))
	numbers(t, "Root", x.Root, 0, 5, 6, -1)
	reads(t, x, "roots 0 5 6", "0 0 x >", "1 1 x >", "2 2 x >", "3 1 x = 4", "4 1 x >", "5 1 x >", "6 2 x > y:8", "7 2 x y >", "8 2 x y >")
}

// several returns a tree with three transitions to the canonical shape 3, two of them over aliases, and one to a shape with the same names.
func several(t *testing.T) *Tree {
	t.Helper()
	x := tree("x")
	for n := range 3 {
		gives(t, n+1)(x.Split(0))
	}
	for n := range 4 {
		gives(t, n+4)(x.Add(n, "y"))
	}
	merges(t, x, 4, 5)
	merges(t, x, 6, 4)
	reads(t, x, "roots 1", "0 0 x > y:4", "1 0 x > y:5", "2 0 x > y:6", "3 0 x > y:7", "4 0 x y = 6", "5 0 x y = 4", "6 0 x y >", "7 0 x y >")
	return x
}

// P8.6: all transitions that led to the same canonical shape lead to the new one, whichever of the aliases is split.
func TestSplitOfAliases(t *testing.T) {
	for _, a := range []int{4, 5, 6} {
		x := several(t)
		gives(t, 8)(x.Split(a))
		reads(t, x, "roots 1", "0 0 x > y:8", "1 0 x > y:8", "2 0 x > y:8", "3 0 x > y:7", "4 0 x y = 6", "5 0 x y = 4", "6 0 x y >", "7 0 x y >", "8 0 x y >")
		numbers(t, "Canon", x.Canon, 0, 1, 2, 3, 6, 6, 6, 7, 8, -1)
	}
	x := several(t)
	gives(t, 8)(x.Split(7))
	reads(t, x, "roots 1", "0 0 x > y:4", "1 0 x > y:5", "2 0 x > y:6", "3 0 x > y:8", "4 0 x y = 6", "5 0 x y = 4", "6 0 x y >", "7 0 x y >", "8 0 x y >")
}

// P8.6: Split of a shape to which neither a transition nor a root leads.
func TestSplitOfLoneShape(t *testing.T) {
	x := tree("x")
	gives(t, 1)(x.Make(0, []string{"y", "z"}))
	gives(t, 2)(x.Split(1))
	reads(t, x, "roots 0", "0 0 x >", "1 0 y z >", "2 0 y z >")
}
