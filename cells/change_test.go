package cells

import (
	"math"
	"testing"

	"facsimile/api"
	"facsimile/shape"
)

// P11.6: Merge and Split return what they return on the tree, and do the same to it.
func TestMergeAndSplitAreThoseOfTheTree(t *testing.T) {
	c := classes("x", "x", "")
	s, x := New(c), shape.New(c)
	numbers := []int{0, 1, 2, 3, 4, 5, 6, 7, -1, 20, 199, 200, 1000, math.MaxInt, math.MinInt}
	for _, name := range []string{"y", "z"} {
		s.Tree().Add(0, name)
		x.Add(0, name)
	}
	for _, a := range numbers {
		got, e := s.Split(a)
		if want, wantError := x.Split(a); got != want || e != wantError {
			t.Errorf("Split(%d) = %d, %d, want %d, %d", a, got, e, want, wantError)
		}
		for _, b := range numbers {
			if e, want := s.Merge(a, b), x.Merge(a, b); e != want {
				t.Errorf("Merge(%d, %d) = %d, want %d", a, b, e, want)
			}
			if s.Tree().Text() != x.Text() {
				t.Fatalf("after Merge(%d, %d) the tree is\n%swant\n%s", a, b, s.Tree().Text(), x.Text())
			}
		}
	}
	for n := s.Tree().Count(); n < 200; n++ {
		splits(t, s, 1, n)
	}
	if n, e := s.Split(1); n != 0 || e != api.ErrMany {
		t.Errorf("Split with 200 shapes = %d, %d", n, e)
	}
	merges(t, s, 1, 199)
}

// P11.6: Waiting has none, some and all objects, whatever merges and splits them.
func TestWaiting(t *testing.T) {
	s := with(t, instance(0, "x"), array(), instance(0, "y"), instance(0, "x"), instance(1, ""), instance(1, ""))
	waits(t, s)
	splits(t, s, 0, 3)
	splits(t, s, 1, 4)
	splits(t, s, 2, 5)
	waits(t, s)
	merges(t, s, 0, 3) // the new shape becomes an alias, which no object has
	waits(t, s)
	merges(t, s, 3, 0) // the same canonical shape already
	waits(t, s)
	merges(t, s, 4, 1)
	waits(t, s, 4, 5)
	merges(t, s, 5, 2)
	waits(t, s, 2, 4, 5)
	splits(t, s, 0, 6)
	merges(t, s, 6, 0)
	waits(t, s, 0, 2, 3, 4, 5)
	check := unchanged(t, s)
	for _, l := range [][2]int{{0, 1}, {0, 2}, {0, 99}, {-1, 0}} {
		if e := s.Merge(l[0], l[1]); e != api.ErrArg {
			t.Errorf("Merge%v = %d", l, e)
		}
	}
	check()
	shaped(t, s, 6)
	waits(t, s, 2, 3, 4, 5)
	gets(t, s, 3, "x", integer(0))
	waits(t, s, 2, 4, 5)
	s.Keep(list(0, 1, 2, 3, 5))
	waits(t, s, 2, 5)
	slots(t, s, 2, 0, integer(0))
	if n, ok := s.Shape(5); n != 4 || !ok {
		t.Errorf("Shape(5) = %d, %t", n, ok)
	}
	waits(t, s)
}

// P11.6: an object migrates along a chain of merges, at once or after each of them.
func TestChainOfMerges(t *testing.T) {
	for _, often := range []bool{false, true} {
		s := with(t, instance(0, "x"), instance(0, "x"))
		splits(t, s, 0, 2)
		for last := 2; last < 40; last++ {
			splits(t, s, last, last+1)
		}
		merges(t, s, 2, 0)
		for last := 2; last < 40; last++ {
			merges(t, s, last+1, last)
			waits(t, s, 0, 1)
			if often {
				shaped(t, s, last+1)
				waits(t, s, 1)
			}
		}
		gets(t, s, 1, "x", integer(0))
		shaped(t, s, 40, 40)
		waits(t, s)
	}
}

// P11.6: a split before a merge, and after it.
func TestSplitsAndMerges(t *testing.T) {
	s := with(t, instance(0, "x"), instance(0, "x"))
	splits(t, s, 0, 2)
	allocs(t, s, 2, instance(0, "x"))
	merges(t, s, 2, 0)
	waits(t, s, 0, 1)
	shaped(t, s, 2)
	splits(t, s, 0, 3) // of the canonical shape, which is 2
	allocs(t, s, 3, instance(0, "x"))
	waits(t, s, 1)
	shaped(t, s, 2, 2, 2, 3)
	merges(t, s, 1, 1)
	merges(t, s, 3, 0)
	waits(t, s, 0, 1, 2)
	gets(t, s, 1, "x", integer(0))
	waits(t, s, 0, 2)
	merges(t, s, 0, 3)
	waits(t, s, 0, 2)
	shaped(t, s, 3, 3, 3, 3)
	waits(t, s)
	has(t, s, 4, numbered(instance(0, "x"), instance(0, "x"), instance(0, "x"), instance(0, "x"))...)
}
