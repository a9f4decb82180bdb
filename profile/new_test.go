package profile

import (
	"math"
	"testing"

	"facsimile/api"
)

// P14.1: each of the four numbers at its bounds and beyond them; hot below, at and above warm.
func TestNew(t *testing.T) {
	for _, row := range []struct {
		sample, warm, hot, cold int
		right                   bool
	}{
		{1, 1, 2, 1, true},
		{1000, 1, 2, 1, true},
		{1000, 999999, 1000000, 1000000, true},
		{0, 1, 2, 1, false},
		{-1, 1, 2, 1, false},
		{1001, 1, 2, 1, false},
		{math.MinInt, 1, 2, 1, false},
		{math.MaxInt, 1, 2, 1, false},
		{1, 0, 2, 1, false},
		{1, -1, 2, 1, false},
		{1, 0, 1, 1, false},
		{1, -5, -4, 1, false},
		{1, 1000000, 1000000, 1, false},
		{1, 1000000, 1000001, 1, false},
		{1, 1000001, 1000002, 1, false},
		{1, math.MinInt, 2, 1, false},
		{1, math.MaxInt, math.MinInt, 1, false},
		{1, math.MaxInt, math.MaxInt, 1, false},
		{1, 1, 1, 1, false},
		{1, 1, 0, 1, false},
		{1, 1, -1, 1, false},
		{1, 2, 1, 1, false},
		{1, 10, 9, 1, false},
		{1, 10, 10, 1, false},
		{1, 10, 11, 1, true},
		{1, 1, 1000000, 1, true},
		{1, 1, 1000001, 1, false},
		{1, 999999, 999999, 1, false},
		{1, 1, math.MinInt, 1, false},
		{1, 1, math.MaxInt, 1, false},
		{1, 1, 2, 0, false},
		{1, 1, 2, -1, false},
		{1, 1, 2, 1000000, true},
		{1, 1, 2, 1000001, false},
		{1, 1, 2, math.MinInt, false},
		{1, 1, 2, math.MaxInt, false},
		{0, 0, 0, 0, false},
	} {
		makes(t, row.sample, row.warm, row.hot, row.cold, row.right)
	}
}

// makes checks what New returns.
func makes(t *testing.T, sample, warm, hot, cold int, right bool) {
	t.Helper()
	p, e := New(sample, warm, hot, cold)
	if !right {
		if p != nil || e != api.ErrArg {
			t.Errorf("New(%d, %d, %d, %d) = %v, %d", sample, warm, hot, cold, p, e)
		}
		return
	}
	if p == nil || e != api.OK {
		t.Fatalf("New(%d, %d, %d, %d) = %v, %d", sample, warm, hot, cold, p, e)
	}
	if d := p.Decisions(); len(d) > 0 || p.Text() != "" || p.Tier(here) != 0 || p.Tier(api.Place{}) != 0 {
		t.Errorf("New(%d, %d, %d, %d) has %v, %q", sample, warm, hot, cold, d, p.Text())
	}
}

// P14.1: all combinations of numbers at the bounds.
func TestNewOfAll(t *testing.T) {
	edges := []int{math.MinInt, -1000000, -1, 0, 1, 2, 999, 1000, 1001, 999999, 1000000, 1000001, math.MaxInt}
	right := 0
	for _, sample := range edges {
		for _, warm := range edges {
			for _, hot := range edges {
				for _, cold := range edges {
					wrong := sample < 1 || sample > 1000 || warm < 1 || warm > 1000000 || hot <= warm || hot > 1000000 || cold < 1 || cold > 1000000
					makes(t, sample, warm, hot, cold, !wrong)
					if !wrong {
						right++
					}
				}
			}
		}
	}
	// 4 samples, 21 pairs of 7 numbers for warm and hot, and 7 for cold
	if right != 4*21*7 {
		t.Errorf("%d are right", right)
	}
}

// P14.1: the greatest numbers are those that decide.
func TestTheGreatestNumbers(t *testing.T) {
	tell(t,
		told{1000, 1, 2, 1, "999b b! 999b b!", "2 2000 2 0", list("1 warm 1; 2 hot 2")},
		told{1, 999999, 1000000, 1, "999998b b! b!", "2 1000000 1000000 0", list("1 warm 999999; 2 hot 1000000")},
		told{1, 1, 1000000, 1, "b! 999998b b!", "2 1000000 1000000 0", list("1 warm 1; 2 hot 1000000")},
	)
	p := made(t, 1, 1, 2, 1000000)
	follow(t, p, here, "b! b!")
	for range 999999 {
		if p.Left(here, 0) {
			t.Fatal("the tier has changed too early")
		}
	}
	follow(t, p, here, "l1 l0!")
	decided(t, p, here, list("1 warm 1; 2 hot 2; 1 exit 0 left 1000000 times")...)
}
