package cache

import (
	"math"
	"slices"
	"testing"

	"facsimile/api"
)

// On a nil Site there is nothing, whatever was called before.
func TestNil(t *testing.T) {
	var s *Site
	for range 2 {
		for _, shape := range append(odd(), 0, 1, 3, api.MaxInt, math.MaxInt) {
			misses(t, s, shape)
			forgets(t, s, shape, false)
			for _, slot := range append(odd(), 0, 1, math.MaxInt) {
				refuses(t, s, shape, slot, api.ErrArg)
			}
			reads(t, s, "")
			counts(t, s, 0, 0)
		}
	}
}

// A zero Site is like that of New, with each call as the first one.
func TestZero(t *testing.T) {
	for name, call := range map[string]func(t *testing.T, s *Site){
		"Find":  func(t *testing.T, s *Site) { misses(t, s, 0, 1, -1); counts(t, s, 0, 3) },
		"Learn": func(t *testing.T, s *Site) { learns(t, s, 0, 0); reads(t, s, "0:0"); hits(t, s, 0, 0) },
		"errors": func(t *testing.T, s *Site) {
			refuses(t, s, -1, 0, api.ErrArg)
			refuses(t, s, 0, -1, api.ErrArg)
			reads(t, s, "")
		},
		"Forget": func(t *testing.T, s *Site) { forgets(t, s, 0, false); reads(t, s, "") },
		"State":  func(t *testing.T, s *Site) { reads(t, s, "") },
		"Counts": func(t *testing.T, s *Site) { counts(t, s, 0, 0) },
		"full": func(t *testing.T, s *Site) {
			for shape := range 4 {
				learns(t, s, shape, shape)
			}
			reads(t, s, "0:0 1:1 2:2 3:3")
			refuses(t, s, 4, 4, api.ErrMany)
			reads(t, s, "full")
		},
	} {
		t.Run(name, func(t *testing.T) {
			var zero Site
			call(t, &zero)
			call(t, &Site{})
			call(t, new(Site))
			call(t, New())
		})
	}
}

// Sites do not share anything: what is learned, forgotten and counted, and whether they are full.
func TestTwoSites(t *testing.T) {
	a, b := New(), New()
	learns(t, a, 3, 1)
	reads(t, b, "")
	misses(t, b, 3)
	counts(t, a, 0, 0)
	learns(t, b, 3, 2)
	learns(t, b, 4, 4)
	hits(t, a, 3, 1)
	hits(t, b, 3, 2)
	counts(t, a, 1, 0)
	counts(t, b, 1, 1)
	forgets(t, b, 3, true)
	reads(t, a, "3:1")
	for shape := 5; shape <= 7; shape++ {
		learns(t, b, shape, 0)
	}
	refuses(t, b, 8, 0, api.ErrMany)
	reads(t, a, "3:1")
	reads(t, b, "full")
	reads(t, New(), "")
	reads(t, &Site{}, "")
	counts(t, New(), 0, 0)
}

// R3: what is returned can be changed, and changes afterwards with nothing.
func TestResultsAreNew(t *testing.T) {
	for _, text := range all() {
		s := site(t, text)
		a, b := s.Shapes(), s.Shapes()
		want := slices.Clone(a)
		whole := a[:cap(a)]
		for n := range whole {
			whole[n] = 77
		}
		if !slices.Equal(b, want) {
			t.Errorf("%d became %d", want, b)
		}
		reads(t, s, text)
		for _, shape := range want {
			forgets(t, s, shape, true)
			learns(t, s, shape+100, 3)
		}
		if !slices.Equal(b, want) {
			t.Errorf("%d became %d", want, b)
		}
	}
}

// Nothing is kept of shapes that a site does not know any more, nor of those of a full one.
func TestNothingElseIsKept(t *testing.T) {
	for _, order := range [][]int{{1, 2, 3, 4}, {4, 3, 2, 1}, {2, 4, 1, 3}} {
		s := site(t, "1:5 2:6 3:7 4:8")
		for _, shape := range order {
			forgets(t, s, shape, true)
		}
		if *s != *New() {
			t.Errorf("%v is kept", *s)
		}
	}
	a := site(t, "full")
	b := site(t, "11:0 12:1 13:2 14:3")
	refuses(t, b, 15, 4, api.ErrMany)
	if *a != *b {
		t.Errorf("%v and %v are kept", *a, *b)
	}
}
