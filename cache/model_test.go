package cache

import (
	"math/rand"
	"slices"
	"strconv"
	"strings"
	"testing"

	"facsimile/api"
)

// step is a call of Learn, Forget or Find, by its first letter.
type step struct {
	call        byte
	shape, slot int
}

// story is a second site: it keeps all calls, and finds out from them what the site knows.
type story struct {
	steps        []step
	full         bool
	hits, misses int
}

// learned returns when a shape was learned first after it was forgotten last, and its slot since it was learned last.
func (h *story) learned(shape int) (first, slot int, ok bool) {
	for n := len(h.steps) - 1; n >= 0; n-- {
		x := h.steps[n]
		if x.shape != shape || x.call == 'F' {
			continue
		}
		if x.call == 'f' {
			break
		}
		if !ok {
			slot = x.slot
		}
		first, ok = n, true
	}
	return first, slot, ok
}

// known returns all shapes that were learned and not forgotten, however many they are, by the time at which they were learned.
func (h *story) known() []int {
	var shapes, times []int
	for _, x := range h.steps {
		if first, _, ok := h.learned(x.shape); ok && !slices.Contains(times, first) {
			times = append(times, first)
		}
	}
	slices.Sort(times)
	for _, n := range times {
		shapes = append(shapes, h.steps[n].shape)
	}
	return shapes
}

func (h *story) learn(shape, slot int) api.Errno {
	if shape < 0 || slot < 0 {
		return api.ErrArg
	}
	h.steps = append(h.steps, step{'L', shape, slot})
	h.full = h.full || len(h.known()) > 4
	if h.full {
		return api.ErrMany
	}
	return api.OK
}

func (h *story) forget(shape int) bool {
	_, _, ok := h.learned(shape)
	h.steps = append(h.steps, step{'f', shape, 0})
	return ok && !h.full
}

func (h *story) find(shape int) (int, bool) {
	_, slot, ok := h.learned(shape)
	h.steps = append(h.steps, step{'F', shape, 0})
	if !ok || h.full {
		h.misses++
		return 0, false
	}
	h.hits++
	return slot, true
}

func (h *story) text() string {
	if h.full {
		return "full"
	}
	var text string
	for _, shape := range h.known() {
		_, slot, _ := h.learned(shape)
		text += " " + strconv.Itoa(shape) + ":" + strconv.Itoa(slot)
	}
	return strings.TrimPrefix(text, " ")
}

// same makes a call on a site and a story.
func same(t *testing.T, s *Site, h *story, x step) {
	t.Helper()
	switch x.call {
	case 'L':
		refuses(t, s, x.shape, x.slot, h.learn(x.shape, x.slot))
	case 'f':
		forgets(t, s, x.shape, h.forget(x.shape))
	default:
		want, wantOk := h.find(x.shape)
		if got, ok := s.Find(x.shape); got != want || ok != wantOk {
			t.Errorf("Find(%d) = %d, %t, want %d, %t", x.shape, got, ok, want, wantOk)
		}
	}
}

// P12.1 to P12.5: all ways to learn and to forget shapes in up to seven calls; shapes get their numbers as they come up.
func TestAllShortStories(t *testing.T) {
	filled, ended := 0, 0
	var follow func(steps []step, shapes int)
	follow = func(steps []step, shapes int) {
		s, h := New(), &story{}
		for _, x := range steps {
			same(t, s, h, x)
		}
		reads(t, s, h.text())
		for shape := -1; shape <= shapes; shape++ {
			same(t, s, h, step{'F', shape, 0})
		}
		counts(t, s, h.hits, h.misses)
		if t.Failed() {
			t.Fatalf("after %v", steps)
		}
		ended++
		if s.State() == 3 {
			filled++
		}
		if len(steps) == 7 {
			return
		}
		for shape := range shapes + 1 {
			next := max(shapes, shape+1)
			follow(append(slices.Clip(steps), step{'L', shape, len(steps)}), next)
			follow(append(slices.Clip(steps), step{'f', shape, 0}), next)
		}
	}
	follow(nil, 0)
	if filled == 0 || filled == ended {
		t.Errorf("%d of %d sites are full", filled, ended)
	}
}

// P12.1 to P12.5: random calls, of which some runs make the site full soon, late, or never.
func TestRandomStories(t *testing.T) {
	filled := 0
	for seed := range int64(60) {
		r := rand.New(rand.NewSource(seed))
		s, h := New(), &story{}
		numbers := 4 + int(seed%4)
		for range 200 {
			x := step{"LLfffFF"[r.Intn(7)], r.Intn(numbers+2) - 1, r.Intn(21) - 1}
			if numbers == 4 {
				x.shape = r.Intn(4)
			}
			same(t, s, h, x)
			reads(t, s, h.text())
			counts(t, s, h.hits, h.misses)
			if t.Failed() {
				t.Fatalf("seed %d, after %v", seed, h.steps)
			}
		}
		if s.State() == 3 {
			filled++
		}
	}
	if filled < 10 || filled > 50 {
		t.Errorf("%d of 60 sites are full", filled)
	}
}

// R4: the same calls have the same results.
func TestTheSameCalls(t *testing.T) {
	run := func() []string {
		s, r := New(), rand.New(rand.NewSource(5))
		var results []string
		for range 300 {
			shape, slot := r.Intn(7)-1, r.Intn(5)-1
			switch r.Intn(3) {
			case 0:
				results = append(results, strconv.Itoa(int(s.Learn(shape, slot))))
			case 1:
				results = append(results, strconv.FormatBool(s.Forget(shape)))
			default:
				found, ok := s.Find(shape)
				results = append(results, strconv.Itoa(found)+strconv.FormatBool(ok))
			}
			results = append(results, s.Text())
		}
		return results
	}
	if first := run(); !slices.Equal(first, run()) {
		t.Error("the second run has other results")
	}
}
