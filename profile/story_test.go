package profile

import (
	"slices"
	"strconv"
	"strings"
	"testing"

	"facsimile/api"
)

// here is the place of tests that need only one.
var here = api.Place{Fun: 3, Line: 7}

// made makes a profile with these numbers.
func made(t *testing.T, sample, warm, hot, cold int) *Profile {
	t.Helper()
	p, e := New(sample, warm, hot, cold)
	if p == nil || e != api.OK {
		t.Fatalf("New(%d, %d, %d, %d) = %v, %d", sample, warm, hot, cold, p, e)
	}
	return p
}

// number returns the number that a word ends with.
func number(t *testing.T, word string) int {
	t.Helper()
	n, e := strconv.Atoi(word)
	if e != nil {
		t.Fatal(e)
	}
	return n
}

// follow makes calls for a place: b is Back, l5 Left with the exit 5, f30 Failed with the error 30, and 9b Back nine times. Back and Left have to return false, or true where the word ends with !.
func follow(t *testing.T, p *Profile, at api.Place, story string) {
	t.Helper()
	for n, word := range strings.Fields(story) {
		call, want := strings.CutSuffix(word, "!")
		times := 1
		if count, ok := strings.CutSuffix(call, "b"); ok && count != "" {
			call, times = "b", number(t, count)
		}
		for range times {
			got := want
			switch call[0] {
			case 'b':
				got = p.Back(at)
			case 'l':
				got = p.Left(at, number(t, call[1:]))
			case 'f':
				p.Failed(at, api.Errno(number(t, call[1:])))
			default:
				t.Fatalf("no call: %s", word)
			}
			if got != want {
				t.Errorf("%q: the word %d, %s, is %t", story, n, word, got)
			}
		}
	}
}

// decided checks the decisions about a place, each of which is its tier, a blank and its reason.
func decided(t *testing.T, p *Profile, at api.Place, want ...string) {
	t.Helper()
	var got []string
	for _, d := range p.Decisions() {
		if d.Place == at {
			got = append(got, strconv.Itoa(d.Tier)+" "+d.Reason)
		}
	}
	if !slices.Equal(got, want) {
		t.Errorf("decided for %v: %q, want %q", at, got, want)
	}
	tier := 0
	if len(want) > 0 {
		word, _, _ := strings.Cut(want[len(want)-1], " ")
		tier = number(t, word)
	}
	if p.Tier(at) != tier {
		t.Errorf("the tier of %v is %d, want %d", at, p.Tier(at), tier)
	}
}

// reads checks the Text, whose lines are given without their ends.
func reads(t *testing.T, p *Profile, lines ...string) {
	t.Helper()
	var want string
	for _, line := range lines {
		want += line + "\n"
	}
	if p.Text() != want {
		t.Errorf("Text %q, want %q", p.Text(), want)
	}
}

// told is a story of the place here, and what is known after it.
type told struct {
	sample, warm, hot, cold int
	story                   string
	counted                 string // tier, calls, count and failures
	decided                 []string
}

// tell checks stories, each with a profile of its own.
func tell(t *testing.T, rows ...told) {
	t.Helper()
	for _, row := range rows {
		p := made(t, row.sample, row.warm, row.hot, row.cold)
		follow(t, p, here, row.story)
		reads(t, p, "3 7 "+row.counted)
		decided(t, p, here, row.decided...)
		if t.Failed() {
			t.Fatalf("after %q", row.story)
		}
	}
}

// list returns the parts of a text between semicolons.
func list(text string) []string { return strings.Split(text, "; ") }
