package shape

import (
	"math"
	"slices"
	"strconv"
	"strings"
	"testing"

	"facsimile/api"
)

// tree makes a tree of classes with these fields, which stand between blanks.
func tree(fields ...string) *Tree {
	var c []api.Class
	for n, f := range fields {
		c = append(c, api.Class{Name: "C" + strconv.Itoa(n), Fields: strings.Fields(f)})
	}
	return New(c)
}

// many returns n names that are different.
func many(n int) []string {
	var names []string
	for k := range n {
		names = append(names, "f"+strconv.Itoa(k))
	}
	return names
}

// lost are numbers that no shape and no class has.
func lost(count int) []int {
	return []int{-1, -2, -count, count, count + 1, 1000, api.MaxInt, -api.MaxInt, math.MaxInt, math.MaxInt - 1, math.MinInt, math.MinInt + 1}
}

// reads checks the Text of a tree.
func reads(t *testing.T, x *Tree, lines ...string) {
	t.Helper()
	if want := strings.Join(lines, "\n") + "\n"; x.Text() != want {
		t.Errorf("Text is\n%swant\n%s", x.Text(), want)
	}
}

// gives checks what Add, Make and Split return.
func gives(t *testing.T, want int) func(int, api.Errno) {
	return func(got int, e api.Errno) {
		t.Helper()
		if got != want || e != api.OK {
			t.Errorf("%d, %d, want %d", got, e, want)
		}
	}
}

// refuses checks that Add, Make and Split return an error, and change nothing.
func refuses(t *testing.T, x *Tree, want api.Errno) func(int, api.Errno) {
	before, count := x.Text(), x.Count()
	return func(got int, e api.Errno) {
		t.Helper()
		if got != 0 || e != want {
			t.Errorf("%d, %d, want the error %d", got, e, want)
		}
		if x.Text() != before || x.Count() != count {
			t.Errorf("the error %d, but there are %d shapes instead of %d, or others", e, x.Count(), count)
		}
	}
}

// finds checks what Find and Slot return.
func finds(t *testing.T, want int) func(int, bool) {
	return func(got int, ok bool) {
		t.Helper()
		if got != want || !ok {
			t.Errorf("%d, %t, want %d", got, ok, want)
		}
	}
}

// misses checks that Find or Slot find nothing.
func misses(t *testing.T) func(int, bool) {
	return func(got int, ok bool) {
		t.Helper()
		if got != 0 || ok {
			t.Errorf("%d, %t, want nothing", got, ok)
		}
	}
}

// merges merges shapes for which this is possible.
func merges(t *testing.T, x *Tree, a, b int) {
	t.Helper()
	if e := x.Merge(a, b); e != api.OK {
		t.Errorf("Merge(%d, %d) = %d", a, b, e)
	}
}

// parts checks that Merge returns ErrArg, and changes nothing.
func parts(t *testing.T, x *Tree, a, b int) {
	t.Helper()
	before := x.Text()
	if e := x.Merge(a, b); e != api.ErrArg {
		t.Errorf("Merge(%d, %d) = %d", a, b, e)
	}
	if x.Text() != before {
		t.Errorf("with an error, the tree became\n%swant\n%s", x.Text(), before)
	}
}

// numbers checks what a function returns for 0, 1 and so on.
func numbers(t *testing.T, what string, f func(int) int, want ...int) {
	t.Helper()
	for n, w := range want {
		if got := f(n); got != w {
			t.Errorf("%s(%d) = %d, want %d", what, n, got, w)
		}
	}
}

// named checks Names and Slot of a shape.
func named(t *testing.T, x *Tree, shape int, names ...string) {
	t.Helper()
	if got := x.Names(shape); !slices.Equal(got, names) {
		t.Errorf("Names(%d) = %q, want %q", shape, got, names)
	}
	for _, name := range names {
		finds(t, slices.Index(names, name))(x.Slot(shape, name))
	}
	misses(t)(x.Slot(shape, "not there"))
}

// The examples of the chapter.
func TestExamples(t *testing.T) {
	x := tree("x")
	numbers(t, "Root", x.Root, 0)
	gives(t, 1)(x.Add(0, "y"))
	gives(t, 1)(x.Add(0, "y"))
	refuses(t, x, api.ErrName)(x.Add(0, "x"))
	gives(t, 2)(x.Split(1))
	gives(t, 2)(x.Add(0, "y"))
	numbers(t, "Canon", x.Canon, 0, 1)
	merges(t, x, 2, 1)
	numbers(t, "Canon", x.Canon, 0, 2)
	finds(t, 2)(x.Find(0, []string{"x", "y"}))
	gives(t, 3)(x.Split(0))
	numbers(t, "Root", x.Root, 3)
	gives(t, 2)(x.Add(0, "y"))
	gives(t, 3)(x.Make(0, []string{"x"}))
	reads(t, x, "roots 3", "0 0 x > y:2", "1 0 x y = 2", "2 0 x y >", "3 0 x >")
	gives(t, 4)(x.Make(0, []string{"q"}))
	reads(t, x, "roots 3", "0 0 x > y:2", "1 0 x y = 2", "2 0 x y >", "3 0 x >", "4 0 q >")
}

// On a nil or zero Tree there are no shapes.
func TestNilAndZeroTree(t *testing.T) {
	for _, x := range []*Tree{nil, {}} {
		for _, n := range append(lost(1), 0) {
			refuses(t, x, api.ErrArg)(x.Add(n, "x"))
			refuses(t, x, api.ErrArg)(x.Add(n, ""))
			for _, names := range [][]string{nil, {}, {"x"}, {""}, many(64), many(65)} {
				refuses(t, x, api.ErrArg)(x.Make(n, names))
				misses(t)(x.Find(n, names))
			}
			refuses(t, x, api.ErrArg)(x.Split(n))
			parts(t, x, n, n)
			parts(t, x, 0, n)
			parts(t, x, n, 0)
			if x.Root(n) != -1 || x.Class(n) != -1 || x.Canon(n) != -1 {
				t.Errorf("Root, Class and Canon of %d are %d, %d and %d", n, x.Root(n), x.Class(n), x.Canon(n))
			}
			misses(t)(x.Slot(n, "x"))
			misses(t)(x.Slot(n, ""))
			if len(x.Names(n)) != 0 {
				t.Errorf("Names(%d) = %q", n, x.Names(n))
			}
		}
		if x.Count() != 0 || x.Text() != "" {
			t.Errorf("%d shapes, with the text %q", x.Count(), x.Text())
		}
	}
}

// P8.1: each class has a root, with its number, class and fields.
func TestNew(t *testing.T) {
	x := tree("x", "", "y x z", "x")
	numbers(t, "Root", x.Root, 0, 1, 2, 3, -1)
	numbers(t, "Class", x.Class, 0, 1, 2, 3, -1)
	numbers(t, "Canon", x.Canon, 0, 1, 2, 3, -1)
	named(t, x, 0, "x")
	named(t, x, 1)
	named(t, x, 2, "y", "x", "z")
	named(t, x, 3, "x")
	if x.Count() != 4 {
		t.Errorf("%d shapes", x.Count())
	}
	reads(t, x, "roots 0 1 2 3", "0 0 x >", "1 1 >", "2 2 y x z >", "3 3 x >")
}

// P8.1: the names and methods of classes do not matter.
func TestNewLooksAtFieldsAlone(t *testing.T) {
	x := New([]api.Class{{}, {Name: "P", Fields: []string{"x"}}, {Name: "P", Fields: []string{"y"}, Methods: []api.Method{{Name: "x", Func: "y"}}}})
	reads(t, x, "roots 0 1 2", "0 0 >", "1 1 x >", "2 2 y >")
}

// P8.1: there are the first 12 classes, and no others.
func TestNumberOfClasses(t *testing.T) {
	for _, c := range []struct{ classes, want int }{{0, 0}, {1, 1}, {11, 11}, {12, 12}, {13, 12}, {14, 12}, {100000, 12}} {
		x := New(slices.Repeat([]api.Class{{Fields: []string{"x"}}}, c.classes))
		if x == nil || x.Count() != c.want {
			t.Fatalf("%d classes: %d shapes", c.classes, x.Count())
		}
		for n := range c.want {
			if x.Root(n) != n || x.Class(n) != n {
				t.Errorf("%d classes: Root and Class of %d are %d and %d", c.classes, n, x.Root(n), x.Class(n))
			}
			named(t, x, n, "x")
			gives(t, n)(x.Make(n, []string{"x"}))
		}
		for _, n := range lost(c.want) {
			if n < 0 || n >= c.want {
				unknown(t, x, n)
			}
		}
	}
}

// unknown checks that there is neither a shape nor a class with this number.
func unknown(t *testing.T, x *Tree, n int) {
	t.Helper()
	if x.Root(n) != -1 || x.Class(n) != -1 || x.Canon(n) != -1 || len(x.Names(n)) != 0 {
		t.Errorf("Root, Class, Canon and Names of %d are %d, %d, %d and %q", n, x.Root(n), x.Class(n), x.Canon(n), x.Names(n))
	}
	misses(t)(x.Slot(n, "x"))
	misses(t)(x.Slot(n, ""))
	misses(t)(x.Find(n, nil))
	misses(t)(x.Find(n, []string{"x"}))
	refuses(t, x, api.ErrArg)(x.Add(n, "new"))
	refuses(t, x, api.ErrArg)(x.Add(n, ""))
	refuses(t, x, api.ErrArg)(x.Add(n, "x"))
	refuses(t, x, api.ErrArg)(x.Make(n, nil))
	refuses(t, x, api.ErrArg)(x.Make(n, []string{"x"}))
	refuses(t, x, api.ErrArg)(x.Split(n))
	parts(t, x, n, n)
	parts(t, x, 0, n)
	parts(t, x, n, 0)
}

// P8.1 to P8.6: numbers of shapes that there are not; a shape is no class.
func TestNumbersThatThereAreNot(t *testing.T) {
	x := tree("x", "y")
	gives(t, 2)(x.Add(0, "y"))
	gives(t, 3)(x.Split(0))
	merges(t, x, 3, 0)
	for _, n := range lost(x.Count()) {
		unknown(t, x, n)
	}
	numbers(t, "Root", x.Root, 3, 1, -1, -1, -1)
	numbers(t, "Class", x.Class, 0, 1, 0, 0, -1)
	for class := 2; class < 5; class++ {
		misses(t)(x.Find(class, []string{"x"}))
		refuses(t, x, api.ErrArg)(x.Make(class, []string{"x"}))
	}
}

// P8.1: fields are taken as they are, the first 64 of them.
func TestFieldsAsTheyAre(t *testing.T) {
	for _, c := range []struct{ fields, want []string }{
		{nil, nil},
		{[]string{}, nil},
		{[]string{""}, []string{""}},
		{[]string{"", "x", ""}, []string{"", "x", ""}},
		{[]string{"x", "y", "x", "x"}, []string{"x", "y", "x", "x"}},
		{[]string{" ", "\n", "a b", ">", "=", "\x00", "\xff", "é"}, []string{" ", "\n", "a b", ">", "=", "\x00", "\xff", "é"}},
		{many(63), many(63)},
		{many(64), many(64)},
		{many(65), many(64)},
		{many(100000), many(64)},
		{slices.Repeat([]string{"x"}, 65), slices.Repeat([]string{"x"}, 64)},
		{[]string{strings.Repeat("x", 1000000)}, []string{strings.Repeat("x", 1000000)}},
	} {
		x := New([]api.Class{{Fields: []string{"before"}}, {Fields: c.fields}, {Fields: []string{"after"}}})
		named(t, x, 0, "before")
		named(t, x, 1, c.want...)
		named(t, x, 2, "after")
		finds(t, 1)(x.Find(1, c.want))
	}
}

// P8.2: the slot of a name that is there twice is the first one; an empty field has one too.
func TestSlot(t *testing.T) {
	x := New([]api.Class{{Fields: []string{"x", "", "y", "x", "", "z"}}})
	for name, want := range map[string]int{"x": 0, "": 1, "y": 2, "z": 5} {
		finds(t, want)(x.Slot(0, name))
	}
	for _, name := range []string{"X", "xx", " x", "x ", "\x00"} {
		misses(t)(x.Slot(0, name))
	}
	misses(t)(tree("x").Slot(0, ""))
	misses(t)(tree("").Slot(0, ""))
}

// P8.2: an alias has the names and the class of its canonical shape; aliases of aliases too.
func TestAliases(t *testing.T) {
	x := tree("q", "x y")
	for n := range 4 {
		gives(t, n+2)(x.Split(1))
	}
	merges(t, x, 3, 2)
	merges(t, x, 4, 3)
	merges(t, x, 5, 4)
	numbers(t, "Canon", x.Canon, 0, 1, 5, 5, 5, 5, -1)
	numbers(t, "Class", x.Class, 0, 1, 1, 1, 1, 1, -1)
	for n := 1; n < 6; n++ {
		named(t, x, n, "x", "y")
	}
	reads(t, x, "roots 0 2", "0 0 q >", "1 1 x y >", "2 1 x y = 3", "3 1 x y = 4", "4 1 x y = 5", "5 1 x y >")
}

// P8.4: Find finds the least shape that is no alias.
func TestFind(t *testing.T) {
	x := tree("x y", "x y", "")
	gives(t, 3)(x.Make(0, []string{"y", "x"}))
	gives(t, 4)(x.Split(0))
	gives(t, 5)(x.Split(0))
	finds(t, 0)(x.Find(0, []string{"x", "y"}))
	finds(t, 1)(x.Find(1, []string{"x", "y"}))
	finds(t, 2)(x.Find(2, nil))
	finds(t, 2)(x.Find(2, []string{}))
	finds(t, 3)(x.Find(0, []string{"y", "x"}))
	misses(t)(x.Find(1, []string{"y", "x"}))
	misses(t)(x.Find(2, []string{"x", "y"}))
	for _, names := range [][]string{nil, {}, {"x"}, {"y"}, {""}, {"x", ""}, {"x", "y", ""}, {"x", "y", "x"}, {"x", "x"}, many(100000)} {
		misses(t)(x.Find(0, names))
	}
	merges(t, x, 5, 0)
	finds(t, 4)(x.Find(0, []string{"x", "y"}))
	merges(t, x, 5, 4)
	finds(t, 5)(x.Find(0, []string{"x", "y"}))
	finds(t, 1)(x.Find(1, []string{"x", "y"}))
}

// P8.4: Find takes names as they are, like those of classes.
func TestFindOfFieldsAsTheyAre(t *testing.T) {
	x := New([]api.Class{{Fields: []string{"", "x", "x"}}})
	finds(t, 0)(x.Find(0, []string{"", "x", "x"}))
	misses(t)(x.Find(0, []string{"x", "", "x"}))
}
