package profile

import (
	"math"
	"slices"
	"testing"

	"facsimile/api"
)

// Each call on a nil or zero Profile, as the first one and after the others.
func TestNothing(t *testing.T) {
	calls := map[string]func(*Profile, api.Place) bool{
		"Back":      func(p *Profile, at api.Place) bool { return !p.Back(at) },
		"Left":      func(p *Profile, at api.Place) bool { return !p.Left(at, 0) && !p.Left(at, 5) && !p.Left(at, -1) },
		"Failed":    func(p *Profile, at api.Place) bool { p.Failed(at, api.ErrAbort); p.Failed(at, api.OK); return true },
		"Tier":      func(p *Profile, at api.Place) bool { return p.Tier(at) == 0 },
		"Decisions": func(p *Profile, at api.Place) bool { return len(p.Decisions()) == 0 },
		"Text":      func(p *Profile, at api.Place) bool { return p.Text() == "" },
	}
	for first, call := range calls {
		for what, p := range map[string]*Profile{"nil": nil, "zero": {}, "new": new(Profile)} {
			for _, at := range []api.Place{{}, here, {Fun: -1, Line: -1}, {Fun: math.MaxInt, Line: math.MinInt}} {
				if !call(p, at) {
					t.Errorf("%s: %s as the first call, for %v", what, first, at)
				}
				for range 3 {
					for name, other := range calls {
						if !other(p, at) {
							t.Errorf("%s: %s after %s, for %v", what, name, first, at)
						}
					}
				}
			}
		}
	}
}

// Profiles share nothing, not even if they were made with the same numbers.
func TestTwoProfiles(t *testing.T) {
	a, b := made(t, 1, 1, 2, 2), made(t, 1, 1, 2, 2)
	follow(t, a, here, "b! b! l0")
	decided(t, b, here)
	reads(t, b)
	follow(t, b, here, "b! b! l0 f30")
	decided(t, a, here, list("1 warm 1; 2 hot 2")...)
	reads(t, a, "3 7 2 2 2 0")
	follow(t, a, here, "l0!")
	decided(t, b, here, list("1 warm 1; 2 hot 2; 0 error 30")...)
	reads(t, b, "3 7 0 2 0 1")
}

// R3: what is returned can be changed, and does not change later.
func TestResultsAreNew(t *testing.T) {
	p := made(t, 1, 1, 2, 1)
	for _, story := range []string{"b!", "b!", "l0!", "f30", "b!", "b!", "l7!"} {
		follow(t, p, here, story)
		a, b, c := p.Decisions(), p.Decisions(), p.Decisions()
		want := slices.Clone(a)
		whole := a[:cap(a)]
		for n := range whole {
			whole[n] = Decision{Tier: 77, Reason: "changed"}
		}
		_ = append(b, Decision{Tier: 78, Reason: "more"})
		if !slices.Equal(c, want) || !slices.Equal(p.Decisions(), want) {
			t.Errorf("%v became %v and %v", want, c, p.Decisions())
		}
	}
	decided(t, p, here, list("1 warm 1; 2 hot 2; 1 exit 0 left 1 times; 0 error 30; 1 warm 1; 2 hot 2; -1 exit 7 left 1 times, given up")...)
	old := p.Decisions()
	kept := slices.Clone(old)
	follow(t, p, api.Place{Fun: 1, Line: 1}, "b! b! l0! b! l0! b! l0!")
	if !slices.Equal(old, kept) {
		t.Errorf("%v became %v", kept, old)
	}
}

// Tier, Decisions and Text change nothing.
func TestQuestions(t *testing.T) {
	p := made(t, 2, 1, 3, 2)
	other := api.Place{Fun: 8, Line: 8}
	for _, word := range []string{"b", "b!", "b", "b", "b", "b!", "l0", "l0!", "f30"} {
		follow(t, p, here, word)
		text, decisions := p.Text(), p.Decisions()
		for range 5 {
			p.Tier(here)
			p.Tier(other)
			if p.Text() != text || !slices.Equal(p.Decisions(), decisions) {
				t.Errorf("%q and %v became %q and %v", text, decisions, p.Text(), p.Decisions())
			}
		}
	}
	reads(t, p, "3 7 0 6 0 2")
}
