package profile

import (
	"math"
	"slices"
	"strconv"
	"testing"

	"facsimile/api"
)

// The examples of the chapter.
func TestExamples(t *testing.T) {
	p := made(t, 2, 1, 3, 2)
	follow(t, p, here, "b b!")
	decided(t, p, here, list("1 warm 1")...)
	follow(t, p, here, "b b b b!")
	decided(t, p, here, list("1 warm 1; 2 hot 3")...)
	follow(t, p, here, "l5 l5!")
	decided(t, p, here, list("1 warm 1; 2 hot 3; 1 exit 5 left 2 times")...)
	follow(t, p, here, "f30")
	decided(t, p, here, list("1 warm 1; 2 hot 3; 1 exit 5 left 2 times; 0 error 30")...)
	follow(t, p, here, "b b! f30")
	decided(t, p, here, list("1 warm 1; 2 hot 3; 1 exit 5 left 2 times; 0 error 30; 1 warm 1; -1 error 30, given up")...)
	reads(t, p, "3 7 -1 8 0 3")
}

// P14.2: the count grows with the calls that are multiples of sample, and decides at warm and at hot.
func TestBack(t *testing.T) {
	tell(t,
		told{1, 1, 2, 1, "b!", "1 1 1 0", list("1 warm 1")},
		told{1, 1, 2, 1, "b! b!", "2 2 2 0", list("1 warm 1; 2 hot 2")},
		told{1, 1, 2, 1, "b! b! b", "2 3 3 0", list("1 warm 1; 2 hot 2")},
		told{1, 1, 3, 1, "b! b", "1 2 2 0", list("1 warm 1")},
		told{1, 1, 3, 1, "b! b b!", "2 3 3 0", list("1 warm 1; 2 hot 3")},
		told{1, 2, 3, 1, "b", "0 1 1 0", nil},
		told{1, 2, 3, 1, "b b!", "1 2 2 0", list("1 warm 2")},
		told{1, 2, 3, 1, "b b! b!", "2 3 3 0", list("1 warm 2; 2 hot 3")},
		told{1, 50, 100, 1, "49b", "0 49 49 0", nil},
		told{1, 50, 100, 1, "49b b!", "1 50 50 0", list("1 warm 50")},
		told{1, 50, 100, 1, "49b b! 49b", "1 99 99 0", list("1 warm 50")},
		told{1, 50, 100, 1, "49b b! 49b b! 9b", "2 109 109 0", list("1 warm 50; 2 hot 100")},
		told{2, 1, 2, 1, "b", "0 1 0 0", nil},
		told{2, 1, 2, 1, "b b!", "1 2 1 0", list("1 warm 1")},
		told{2, 1, 2, 1, "b b! b", "1 3 1 0", list("1 warm 1")},
		told{2, 1, 2, 1, "b b! b b!", "2 4 2 0", list("1 warm 1; 2 hot 2")},
		told{2, 1, 2, 1, "b b! b b! b", "2 5 2 0", list("1 warm 1; 2 hot 2")},
		told{2, 1, 2, 1, "b b! b b! b b", "2 6 3 0", list("1 warm 1; 2 hot 2")},
		told{3, 2, 4, 1, "5b", "0 5 1 0", nil},
		told{3, 2, 4, 1, "5b b! 5b", "1 11 3 0", list("1 warm 2")},
		told{3, 2, 4, 1, "5b b! 5b b! 100b", "2 112 37 0", list("1 warm 2; 2 hot 4")},
	)
}

// P14.2: each call of Back makes one decision at most, with the least distance from warm to hot as with others.
func TestOneDecisionInOneCall(t *testing.T) {
	for warm := 1; warm < 9; warm++ {
		for hot := warm + 1; hot < 10; hot++ {
			p := made(t, 1, warm, hot, 1)
			for n := 1; n < 12; n++ {
				before := len(p.Decisions())
				changed := p.Back(here)
				if made := len(p.Decisions()) - before; changed != (n == warm || n == hot) || made != map[bool]int{true: 1}[changed] {
					t.Errorf("%d, %d: the call %d is %t, with %d decisions", warm, hot, n, changed, made)
				}
			}
		}
	}
}

// P14.2: a place that was given up is not counted any more.
func TestBackOfGivenUp(t *testing.T) {
	up := "b! f30 b! f30 b! f30 "
	decisions := list("1 warm 1; 0 error 30; 1 warm 1; 0 error 30; 1 warm 1; -1 error 30, given up")
	tell(t,
		told{1, 1, 2, 1, up, "-1 3 0 3", decisions},
		told{1, 1, 2, 1, up + "b", "-1 3 0 3", decisions},
		told{1, 1, 2, 1, up + "100b", "-1 3 0 3", decisions},
		told{3, 1, 2, 1, "b b b! f30 b b b! f30 b b b! f30 100b", "-1 9 0 3", decisions},
		told{1, 1, 2, 1, "b! b! l0! b! l0! b! l0! 5b", "-1 4 1 3",
			list("1 warm 1; 2 hot 2; 1 exit 0 left 1 times; 2 hot 2; 1 exit 0 left 1 times; 2 hot 2; -1 exit 0 left 1 times, given up")},
	)
}

// P14.2: the count goes on in tier 2, up to 10^6; calls go on further.
func TestTheGreatestCount(t *testing.T) {
	p := made(t, 1, 1, 2, 1)
	follow(t, p, here, "b! b! 999997b")
	reads(t, p, "3 7 2 999999 999999 0")
	follow(t, p, here, "b")
	reads(t, p, "3 7 2 1000000 1000000 0")
	follow(t, p, here, "b")
	reads(t, p, "3 7 2 1000001 1000000 0")
	follow(t, p, here, "9b")
	reads(t, p, "3 7 2 1000010 1000000 0")
	follow(t, p, here, "l0!")
	reads(t, p, "3 7 1 1000010 1 1")
	follow(t, p, here, "b!")
	reads(t, p, "3 7 2 1000011 2 1")
}

// P14.2: after Left the count goes on from warm, after Failed from 0; calls go on from what they were.
func TestBackAfterSetBack(t *testing.T) {
	tell(t,
		told{1, 3, 5, 1, "b b b! b b! l0!", "1 5 3 1", list("1 warm 3; 2 hot 5; 1 exit 0 left 1 times")},
		told{1, 3, 5, 1, "b b b! b b! l0! b", "1 6 4 1", list("1 warm 3; 2 hot 5; 1 exit 0 left 1 times")},
		told{1, 3, 5, 1, "b b b! b b! l0! b b!", "2 7 5 1", list("1 warm 3; 2 hot 5; 1 exit 0 left 1 times; 2 hot 5")},
		told{1, 3, 5, 1, "b b b! f30", "0 3 0 1", list("1 warm 3; 0 error 30")},
		told{1, 3, 5, 1, "b b b! f30 b b", "0 5 2 1", list("1 warm 3; 0 error 30")},
		told{1, 3, 5, 1, "b b b! f30 b b b!", "1 6 3 1", list("1 warm 3; 0 error 30; 1 warm 3")},
		told{1, 3, 5, 1, "b b b! b f30 b b b!", "1 7 3 1", list("1 warm 3; 0 error 30; 1 warm 3")},
		told{1, 3, 5, 1, "b b b! b b! 9b f30 b b b! b b!", "2 19 5 1", list("1 warm 3; 2 hot 5; 0 error 30; 1 warm 3; 2 hot 5")},
		told{3, 1, 2, 1, "b b b! b b b! b l0! b b!", "2 9 2 1", list("1 warm 1; 2 hot 2; 1 exit 0 left 1 times; 2 hot 2")},
		told{3, 1, 2, 1, "b b b! b b f30 b!", "1 6 1 1", list("1 warm 1; 0 error 30; 1 warm 1")},
		told{3, 1, 2, 1, "b b b! b f30 b b!", "1 6 1 1", list("1 warm 1; 0 error 30; 1 warm 1")},
		told{3, 1, 2, 1, "b b b! f30 b b b!", "1 6 1 1", list("1 warm 1; 0 error 30; 1 warm 1")},
	)
}

// P14.3: Left does nothing in the tiers 0, 1 and -1, and for exits that are negative.
func TestLeftWithoutEffect(t *testing.T) {
	tell(t,
		told{1, 2, 3, 1, "b l0 l5 l-1", "0 1 1 0", nil},
		told{1, 2, 3, 1, "b b! l0 l0 l5 l-1", "1 2 2 0", list("1 warm 2")},
		told{1, 2, 3, 1, "b b! b! l-1 l-1 l-2 l-9223372036854775808", "2 3 3 0", list("1 warm 2; 2 hot 3")},
		told{1, 1, 2, 2, "b! l0 l0 b! l0 l0!", "1 2 1 1", list("1 warm 1; 2 hot 2; 1 exit 0 left 2 times")},
		told{1, 1, 2, 2, "b! b! l0 l-1 l-1 l0!", "1 2 1 1", list("1 warm 1; 2 hot 2; 1 exit 0 left 2 times")},
		told{1, 1, 2, 1, "b! f30 l0 b! f30 l0 b! f30 l0 l5 l-1", "-1 3 0 3",
			list("1 warm 1; 0 error 30; 1 warm 1; 0 error 30; 1 warm 1; -1 error 30, given up")},
	)
}

// P14.3: each exit has a number of its own, and the place is set back when the first of them is cold.
func TestLeft(t *testing.T) {
	hot := "b b! b! "
	tell(t,
		told{1, 2, 3, 1, hot + "l0!", "1 3 2 1", list("1 warm 2; 2 hot 3; 1 exit 0 left 1 times")},
		told{1, 2, 3, 1, hot + "l7!", "1 3 2 1", list("1 warm 2; 2 hot 3; 1 exit 7 left 1 times")},
		told{1, 2, 3, 1, hot + "l9223372036854775807!", "1 3 2 1", list("1 warm 2; 2 hot 3; 1 exit 9223372036854775807 left 1 times")},
		told{1, 2, 3, 2, hot + "l0", "2 3 3 0", list("1 warm 2; 2 hot 3")},
		told{1, 2, 3, 2, hot + "l0 l1 l2 l3", "2 3 3 0", list("1 warm 2; 2 hot 3")},
		told{1, 2, 3, 2, hot + "l0 l1 l2 l3 l2!", "1 3 2 1", list("1 warm 2; 2 hot 3; 1 exit 2 left 2 times")},
		told{1, 2, 3, 3, hot + "l0 l1 l0 l1 l2", "2 3 3 0", list("1 warm 2; 2 hot 3")},
		told{1, 2, 3, 3, hot + "l0 l1 l0 l1 l2 l1!", "1 3 2 1", list("1 warm 2; 2 hot 3; 1 exit 1 left 3 times")},
		told{1, 2, 3, 3, hot + "l0 l1 b l0 9b l0!", "1 13 2 1", list("1 warm 2; 2 hot 3; 1 exit 0 left 3 times")},
	)
}

// P14.3: what was counted before a place was set back, for this exit and for others, does not matter after it.
func TestExitsAfterSetBack(t *testing.T) {
	decisions := list("1 warm 1; 2 hot 2; 1 exit 0 left 3 times; 2 hot 2")
	failed := list("1 warm 1; 2 hot 2; 0 error 30; 1 warm 1; 2 hot 2")
	tell(t,
		told{1, 1, 2, 3, "b! b! l1 l1 l0 l0 l0! b! l1 l1 l0 l0", "2 3 2 1", decisions},
		told{1, 1, 2, 3, "b! b! l1 l1 l0 l0 l0! b! l0 l0 l1 l1 l1!", "1 3 1 2", append(decisions, "1 exit 1 left 3 times")},
		told{1, 1, 2, 3, "b! b! l1 l1 l0 l0 l0! b! l1 l1 l0 l0 l0!", "1 3 1 2", append(decisions, "1 exit 0 left 3 times")},
		told{1, 1, 2, 3, "b! b! l1 l1 l0 l0 f30 b! b! l1 l1 l0 l0", "2 4 2 1", failed},
		told{1, 1, 2, 3, "b! b! l1 l1 l0 l0 f30 b! b! l1 l1 l0 l0 l0!", "1 4 1 2", append(failed, "1 exit 0 left 3 times")},
		told{1, 1, 2, 3, "b! b! l1 l1 l0 l0 f0 l1!", "1 2 1 1", list("1 warm 1; 2 hot 2; 1 exit 1 left 3 times")},
	)
}

// P14.3: with the third failure, of whatever kind the first two are, the place is given up; its count is warm all the same.
func TestTheThirdFailureIsAnExit(t *testing.T) {
	tell(t,
		told{1, 2, 3, 1, "b b! b! l4! b! l5! b! l6!", "-1 5 2 3",
			list("1 warm 2; 2 hot 3; 1 exit 4 left 1 times; 2 hot 3; 1 exit 5 left 1 times; 2 hot 3; -1 exit 6 left 1 times, given up")},
		told{1, 2, 3, 1, "b b! f30 b b! f31 b b! b! l6!", "-1 7 2 3",
			list("1 warm 2; 0 error 30; 1 warm 2; 0 error 31; 1 warm 2; 2 hot 3; -1 exit 6 left 1 times, given up")},
		told{1, 2, 3, 1, "b b! b! l4! f30 b b! b! l6! l6 l7 f30 b", "-1 6 2 3",
			list("1 warm 2; 2 hot 3; 1 exit 4 left 1 times; 0 error 30; 1 warm 2; 2 hot 3; -1 exit 6 left 1 times, given up")},
		told{1, 1, 2, 2, "b! b! l4 l4! b! l4 l5 l4! b! l4 l4! l4 l4", "-1 4 1 3",
			list("1 warm 1; 2 hot 2; 1 exit 4 left 2 times; 2 hot 2; 1 exit 4 left 2 times; 2 hot 2; -1 exit 4 left 2 times, given up")},
	)
}

// P14.4: Failed does nothing in the tiers 0 and -1, and with OK.
func TestFailedWithoutEffect(t *testing.T) {
	up := "b b! f30 b b! f30 b b! f30 "
	decisions := list("1 warm 2; 0 error 30; 1 warm 2; 0 error 30; 1 warm 2; -1 error 30, given up")
	tell(t,
		told{1, 2, 4, 1, "b f30", "0 1 1 0", nil},
		told{1, 2, 4, 1, "b f30 f0 f-1 b!", "1 2 2 0", list("1 warm 2")},
		told{1, 2, 4, 1, "b b! b f0", "1 3 3 0", list("1 warm 2")},
		told{1, 2, 4, 1, "b b! b f0 b!", "2 4 4 0", list("1 warm 2; 2 hot 4")},
		told{1, 2, 4, 1, "b b! b b! f0 b", "2 5 5 0", list("1 warm 2; 2 hot 4")},
		told{1, 2, 4, 1, up + "f30 f31 f0 f-1", "-1 6 0 3", decisions},
	)
}

// P14.4: the place is set back to tier 0, and its count is 0.
func TestFailed(t *testing.T) {
	tell(t,
		told{1, 2, 4, 1, "b b! b f30", "0 3 0 1", list("1 warm 2; 0 error 30")},
		told{1, 2, 4, 1, "b b! b b! f30", "0 4 0 1", list("1 warm 2; 2 hot 4; 0 error 30")},
		told{1, 2, 4, 1, "b b! b b! f30 f30 l0", "0 4 0 1", list("1 warm 2; 2 hot 4; 0 error 30")},
		told{1, 2, 4, 1, "b b! b b! l8! f30", "0 4 0 2", list("1 warm 2; 2 hot 4; 1 exit 8 left 1 times; 0 error 30")},
	)
}

// P14.4: errors are noted by their numbers, whether api has a constant for them or not.
func TestFailedErrors(t *testing.T) {
	for n, text := range map[api.Errno]string{
		api.ErrArg: "1", api.ErrMany: "2", api.ErrAbort: "30", api.ErrTrace: "31", api.ErrRegs: "32", api.ErrPower: "70",
		3: "3", 71: "71", 1000: "1000", math.MaxInt: "9223372036854775807",
		-1: "-1", -30: "-30", -31: "-31", math.MinInt: "-9223372036854775808",
	} {
		for _, story := range []string{"b!", "b! b!"} {
			p := made(t, 1, 1, 2, 1)
			follow(t, p, here, story)
			before := len(p.Decisions())
			p.Failed(here, n)
			want := []Decision{{here, 0, "error " + text}}
			if d := p.Decisions(); !slices.Equal(d[before:], want) {
				t.Errorf("error %d: %v, want %v", n, d[before:], want)
			}
		}
	}
}

// P14.4: with the third failure, of whatever kind the first two are, the place is given up; its count is 0.
func TestTheThirdFailureIsAnError(t *testing.T) {
	tell(t,
		told{1, 2, 3, 1, "b b! f30 b b! f-5 b b! b! f31", "-1 7 0 3",
			list("1 warm 2; 0 error 30; 1 warm 2; 0 error -5; 1 warm 2; 2 hot 3; -1 error 31, given up")},
		told{1, 2, 3, 1, "b b! b! l4! b! l5! f-31", "-1 4 0 3",
			list("1 warm 2; 2 hot 3; 1 exit 4 left 1 times; 2 hot 3; 1 exit 5 left 1 times; -1 error -31, given up")},
		told{1, 2, 3, 1, "b b! b! l4! f30 b b! f1000 f30 l4 9b", "-1 5 0 3",
			list("1 warm 2; 2 hot 3; 1 exit 4 left 1 times; 0 error 30; 1 warm 2; -1 error 1000, given up")},
	)
}

// P14.5: a place of which nothing is known, or of which Left or Failed alone was called, has the tier 0, and no line.
func TestUnknownPlaces(t *testing.T) {
	for _, at := range []api.Place{{}, here, {Fun: -1, Line: -1}, {Fun: math.MaxInt, Line: math.MinInt}} {
		p := made(t, 1, 1, 2, 1)
		for range 3 {
			follow(t, p, at, "l0 l1 l-1 f30 f0 f-1")
			decided(t, p, at)
			reads(t, p)
		}
		other := api.Place{Fun: at.Fun, Line: at.Line + 1}
		follow(t, p, other, "b! b!")
		for range 3 {
			follow(t, p, at, "l0 l1 l-1 f30 f0 f-1")
			decided(t, p, at)
			reads(t, p, strconv.Itoa(other.Fun)+" "+strconv.Itoa(other.Line)+" 2 2 2 0")
		}
		follow(t, p, at, "b! b! l0!")
		decided(t, p, at, list("1 warm 1; 2 hot 2; 1 exit 0 left 1 times")...)
		decided(t, p, other, list("1 warm 1; 2 hot 2")...)
	}
}

// P14.5: a place has a line from the first call of Back on, whether it counts or not.
func TestTextOfOneCall(t *testing.T) {
	tell(t,
		told{1000, 1, 2, 1, "b", "0 1 0 0", nil},
		told{1, 2, 3, 1, "b", "0 1 1 0", nil},
		told{10, 2, 3, 1, "19b b! f-1", "0 20 0 1", list("1 warm 2; 0 error -1")},
	)
}

// P14.5: lines are ordered by Fun and then by Line, as numbers.
func TestOrderOfText(t *testing.T) {
	p := made(t, 1, 2, 3, 1)
	places := []api.Place{
		{Fun: 10, Line: 2}, {Fun: 2, Line: 10}, {Fun: 2, Line: 9}, {Fun: -1, Line: 5}, {Fun: -10, Line: 5}, {Fun: -1, Line: -5}, {Fun: -1, Line: -40}, {Fun: 0, Line: 0},
		{Fun: math.MinInt, Line: math.MaxInt}, {Fun: math.MaxInt, Line: math.MinInt}, {Fun: math.MaxInt, Line: -1}, {Fun: 2, Line: -1}, {Fun: 0, Line: -1},
	}
	for _, at := range places {
		follow(t, p, at, "b")
	}
	want := []string{
		"-9223372036854775808 9223372036854775807 0 1 1 0",
		"-10 5 0 1 1 0",
		"-1 -40 0 1 1 0",
		"-1 -5 0 1 1 0",
		"-1 5 0 1 1 0",
		"0 -1 0 1 1 0",
		"0 0 0 1 1 0",
		"2 -1 0 1 1 0",
		"2 9 0 1 1 0",
		"2 10 0 1 1 0",
		"10 2 0 1 1 0",
		"9223372036854775807 -9223372036854775808 0 1 1 0",
		"9223372036854775807 -1 0 1 1 0",
	}
	reads(t, p, want...)
	slices.Reverse(places)
	p = made(t, 1, 2, 3, 1)
	for _, at := range places {
		follow(t, p, at, "b")
	}
	reads(t, p, want...)
}

// P14.5, R6: however many places there are, they are in order, each time.
func TestTextOfManyPlaces(t *testing.T) {
	p := made(t, 1, 1, 2, 1)
	var want []string
	for n := range 2000 {
		at := api.Place{Fun: n * 7 % 2000 / 50, Line: n * 7 % 50}
		follow(t, p, at, "b!")
	}
	for n := range 2000 {
		want = append(want, strconv.Itoa(n/50)+" "+strconv.Itoa(n%50)+" 1 1 1 0")
	}
	for range 3 {
		reads(t, p, want...)
	}
}

// P14.5: all that Text tells of several places in different tiers.
func TestText(t *testing.T) {
	p := made(t, 2, 1, 3, 2)
	follow(t, p, api.Place{Fun: 4, Line: 1}, "b b! b b b b! l0")
	follow(t, p, api.Place{Fun: 4, Line: 0}, "b b! f30 b b! f30 b b! f30")
	follow(t, p, api.Place{Fun: -2, Line: -3}, "b b! b b b b! l0 l0! b")
	follow(t, p, api.Place{Fun: 0, Line: 9}, "b")
	follow(t, p, api.Place{Fun: 0, Line: 8}, "l0 f30")
	reads(t, p, "-2 -3 1 7 1 1", "0 9 0 1 0 0", "4 0 -1 6 0 3", "4 1 2 6 3 0")
}

// P14.5: Decisions are in the order in which they were made, not in that of places.
func TestOrderOfDecisions(t *testing.T) {
	p := made(t, 1, 1, 2, 1)
	a, b, c := api.Place{Fun: 2, Line: 1}, api.Place{Fun: 1, Line: 2}, api.Place{Fun: -1, Line: -1}
	follow(t, p, a, "b!")
	follow(t, p, b, "b!")
	follow(t, p, a, "b!")
	follow(t, p, c, "b! f1")
	follow(t, p, a, "l0!")
	follow(t, p, c, "b!")
	follow(t, p, b, "f2")
	want := []Decision{{a, 1, "warm 1"}, {b, 1, "warm 1"}, {a, 2, "hot 2"}, {c, 1, "warm 1"}, {c, 0, "error 1"}, {a, 1, "exit 0 left 1 times"}, {c, 1, "warm 1"}, {b, 0, "error 2"}}
	for range 2 {
		if got := p.Decisions(); !slices.Equal(got, want) {
			t.Errorf("%v, want %v", got, want)
		}
		p.Tier(a)
		p.Text()
	}
}
