package shape

import (
	"strconv"
	"testing"

	"facsimile/api"
)

// P8.7: without classes there is the line of the roots alone.
func TestTextWithoutClasses(t *testing.T) {
	for _, x := range []*Tree{New(nil), New([]api.Class{}), tree()} {
		reads(t, x, "roots")
		if x.Count() != 0 {
			t.Errorf("%d shapes", x.Count())
		}
		refuses(t, x, api.ErrArg)(x.Make(0, nil))
		reads(t, x, "roots")
	}
}

// P8.7: the roots as they are, not their canonical shapes.
func TestTextOfRoots(t *testing.T) {
	x := tree("x", "y")
	gives(t, 2)(x.Split(0))
	merges(t, x, 0, 2)
	reads(t, x, "roots 2 1", "0 0 x >", "1 1 y >", "2 0 x = 0")
	x = tree("x", "y")
	gives(t, 2)(x.Split(0))
	gives(t, 3)(x.Split(2))
	merges(t, x, 0, 2)
	merges(t, x, 2, 3)
	reads(t, x, "roots 3 1", "0 0 x >", "1 1 y >", "2 0 x = 0", "3 0 x = 0")
}

// P8.7: transitions in increasing order of their names, byte by byte, in whatever order they were added.
func TestTextOfTransitions(t *testing.T) {
	x := tree("", "k")
	for n, name := range []string{"b", "a", "B", "ab", "aa", "\xc3\xa9", "z", "10", "9", "_"} {
		gives(t, n+2)(x.Add(0, name))
	}
	gives(t, 12)(x.Add(1, "z"))
	gives(t, 13)(x.Add(1, "a"))
	gives(t, 14)(x.Add(3, "b"))
	gives(t, 15)(x.Add(3, "B"))
	reads(t, x, "roots 0 1", "0 0 > 10:9 9:10 B:4 _:11 a:3 aa:6 ab:5 b:2 z:8 \xc3\xa9:7", "1 1 k > a:13 z:12",
		"2 0 b >", "3 0 a > B:15 b:14", "4 0 B >", "5 0 ab >", "6 0 aa >", "7 0 \xc3\xa9 >", "8 0 z >", "9 0 10 >", "10 0 9 >", "11 0 _ >",
		"12 1 k z >", "13 1 k a >", "14 0 a b >", "15 0 a B >")
}

// P8.7: a transition leads to the shape as it is; an alias has no transitions in the text, whatever it had.
func TestTextOfAliases(t *testing.T) {
	x := tree("x")
	gives(t, 1)(x.Add(0, "y"))
	gives(t, 2)(x.Add(1, "z"))
	gives(t, 3)(x.Split(1))
	reads(t, x, "roots 0", "0 0 x > y:3", "1 0 x y > z:2", "2 0 x y z >", "3 0 x y >")
	merges(t, x, 1, 3)
	reads(t, x, "roots 0", "0 0 x > y:3", "1 0 x y > z:2", "2 0 x y z >", "3 0 x y = 1")
	gives(t, 4)(x.Split(1))
	merges(t, x, 4, 3)
	reads(t, x, "roots 0", "0 0 x > y:4", "1 0 x y = 4", "2 0 x y z >", "3 0 x y = 1", "4 0 x y >")
}

// P8.7: names are written as they are.
func TestTextOfNamesAsTheyAre(t *testing.T) {
	x := New([]api.Class{{Fields: []string{""}}, {Fields: []string{"", "x", "", "x"}}, {Fields: []string{"a b", "\n"}}})
	gives(t, 3)(x.Add(1, ":"))
	reads(t, x, "roots 0 1 2", "0 0  >", "1 1  x  x > ::3", "2 2 a b \n >", "3 1  x  x : >")
}

// P8.7: all numbers are decimal.
func TestTextOfManyShapes(t *testing.T) {
	x := tree("", "", "", "", "", "", "", "", "", "", "", "")
	for n := 12; n < 200; n++ {
		gives(t, n)(x.Add(11, "a"+strconv.Itoa(1000-n)))
	}
	lines := []string{"roots 0 1 2 3 4 5 6 7 8 9 10 11"}
	for class := range 12 {
		lines = append(lines, strconv.Itoa(class)+" "+strconv.Itoa(class)+" >")
	}
	for n := 199; n >= 12; n-- {
		lines[12] += " a" + strconv.Itoa(1000-n) + ":" + strconv.Itoa(n)
	}
	for n := 12; n < 200; n++ {
		lines = append(lines, strconv.Itoa(n)+" 11 a"+strconv.Itoa(1000-n)+" >")
	}
	reads(t, x, lines...)
}

// The way through the transitions can be left early.
func TestLeaveTransitions(t *testing.T) {
	x := tree("x", "")
	gives(t, 2)(x.Add(1, "b"))
	gives(t, 3)(x.Add(0, "z"))
	gives(t, 4)(x.Add(1, "a"))
	var seen []transition
	for step, to := range x.transitions() {
		seen = append(seen, step)
		if to == 4 {
			break
		}
	}
	if len(seen) != 2 || seen[0] != (transition{0, "z"}) || seen[1] != (transition{1, "a"}) {
		t.Errorf("%v", seen)
	}
}
