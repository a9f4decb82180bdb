package profile

import (
	"math/rand"
	"slices"
	"strconv"
	"strings"
	"testing"

	"facsimile/api"
)

// step is a call: Back (b), Left (l) with an exit, or Failed (f) with an error.
type step struct {
	call byte
	n    int
}

// past is a second profile of one place: it keeps the calls that had an effect, and finds everything from them.
type past struct {
	sample, warm, hot, cold int
	steps                   []step
	decisions               []Decision
	at                      []int // how many steps there were with each decision
}

// tier is that of the last decision.
func (h *past) tier() int {
	if len(h.decisions) == 0 {
		return 0
	}
	return h.decisions[len(h.decisions)-1].Tier
}

// calls returns how many steps from a number on are calls like x.
func (h *past) calls(from int, x step) int {
	sum := 0
	for _, y := range h.steps[from:] {
		if y == x {
			sum++
		}
	}
	return sum
}

// grew reports whether the decision number n has led to a greater tier.
func (h *past) grew(n int) bool {
	d := h.decisions[n]
	return d.Tier == 2 || d.Tier == 1 && !strings.HasPrefix(d.Reason, "exit")
}

// failures returns how many decisions have led to a lower tier.
func (h *past) failures() int {
	sum := 0
	for n := range h.decisions {
		if !h.grew(n) {
			sum++
		}
	}
	return sum
}

// back returns after how many steps the place was set back last, and what its count was then.
func (h *past) back() (from, count int) {
	for n, d := range h.decisions {
		if !h.grew(n) {
			from, count = h.at[n], 0
			if strings.HasPrefix(d.Reason, "exit") {
				count = h.warm
			}
		}
	}
	return from, count
}

// count returns how many calls of Back were counted since the place was set back (a story here does not get to 10^6).
func (h *past) count() int {
	from, count := h.back()
	for n := range h.steps[from:] {
		x := step{'b', 0}
		if h.steps[from+n] == x && h.calls(0, x)%h.sample == h.calls(from+n+1, x)%h.sample {
			count++
		}
	}
	return count
}

// note makes a decision, which is another one if the place is set back for the third time.
func (h *past) note(tier int, reason string) {
	if (tier == 0 || strings.HasPrefix(reason, "exit")) && h.failures() == 2 {
		tier, reason = -1, reason+", given up"
	}
	h.decisions = append(h.decisions, Decision{here, tier, reason})
	h.at = append(h.at, len(h.steps))
}

// do makes a call and reports whether there was a decision.
func (h *past) do(x step) bool {
	tier, before := h.tier(), len(h.decisions)
	if tier < 0 || x.call == 'l' && (tier < 2 || x.n < 0) || x.call == 'f' && (tier == 0 || x.n == 0) {
		return false
	}
	h.steps = append(h.steps, x)
	count := strconv.Itoa(h.count())
	from, _ := h.back()
	switch {
	case x.call == 'f':
		h.note(0, "error "+strconv.Itoa(x.n))
	case x.call == 'l' && h.calls(from, x) == h.cold:
		h.note(1, "exit "+strconv.Itoa(x.n)+" left "+strconv.Itoa(h.cold)+" times")
	case x.call == 'l' || h.calls(0, x)%h.sample > 0:
	case tier == 0 && h.count() >= h.warm:
		h.note(1, "warm "+count)
	case tier == 1 && h.count() >= h.hot:
		h.note(2, "hot "+count)
	}
	return len(h.decisions) > before
}

// text returns the line of the place.
func (h *past) text() string {
	calls := h.calls(0, step{'b', 0})
	if calls == 0 {
		return ""
	}
	text := strconv.Itoa(here.Fun) + " " + strconv.Itoa(here.Line)
	for _, n := range []int{h.tier(), calls, h.count(), h.failures()} {
		text += " " + strconv.Itoa(n)
	}
	return text + "\n"
}

// do makes a call for a place, and reports whether Back or Left returned true.
func do(p *Profile, at api.Place, x step) bool {
	switch x.call {
	case 'b':
		return p.Back(at)
	case 'l':
		return p.Left(at, x.n)
	}
	p.Failed(at, api.Errno(x.n))
	return false
}

// same makes a call on a profile and on a past, and checks that both know the same afterwards.
func same(t *testing.T, p *Profile, h *past, x step) {
	t.Helper()
	got, want := do(p, here, x), h.do(x)
	if got != want && x.call != 'f' {
		t.Errorf("%c %d: %t, want %t", x.call, x.n, got, want)
	}
	if p.Tier(here) != h.tier() || !slices.Equal(p.Decisions(), h.decisions) || p.Text() != h.text() {
		t.Errorf("%d, %v, %q, want %d, %v, %q", p.Tier(here), p.Decisions(), p.Text(), h.tier(), h.decisions, h.text())
	}
}

// P14.2 to P14.5: all stories of up to eight calls.
func TestAllShortStories(t *testing.T) {
	for _, row := range [][4]int{{1, 1, 2, 1}, {1, 1, 2, 2}, {2, 1, 2, 1}, {1, 2, 3, 2}} {
		ended, calls := 0, []step{{'b', 0}, {'l', 0}, {'l', 1}, {'f', 30}}
		var tell func(steps []step)
		tell = func(steps []step) {
			p, h := made(t, row[0], row[1], row[2], row[3]), &past{sample: row[0], warm: row[1], hot: row[2], cold: row[3]}
			for n, x := range steps {
				if n < len(steps)-1 {
					do(p, here, x)
					h.do(x)
					continue
				}
				same(t, p, h, x)
			}
			if t.Failed() {
				t.Fatalf("%d, after %v", row, steps)
			}
			if h.tier() < 0 {
				ended++
			}
			if len(steps) == 8 {
				return
			}
			for _, x := range calls {
				tell(append(slices.Clip(steps), x))
			}
		}
		tell(nil)
		if ended == 0 && row[0] == 1 && row[1] == 1 {
			t.Errorf("%d: no story ends", row)
		}
	}
}

// some returns a random call, more often Back than others.
func some(r *rand.Rand) step {
	switch r.Intn(8) {
	case 0:
		return step{'f', []int{0, 0, 30, 31, 71, -1}[r.Intn(6)]}
	case 1, 2, 3:
		return step{'l', r.Intn(4) - 1}
	}
	return step{'b', 0}
}

// P14.2 to P14.6: random stories, with all kinds of numbers.
func TestRandomStories(t *testing.T) {
	var tiers [4]int
	for seed := range int64(300) {
		r := rand.New(rand.NewSource(seed))
		sample, warm, cold := 1+r.Intn(4), 1+r.Intn(4), 1+r.Intn(4)
		hot := warm + 1 + r.Intn(4)
		p, h := made(t, sample, warm, hot, cold), &past{sample: sample, warm: warm, hot: hot, cold: cold}
		for range 30 * sample {
			same(t, p, h, some(r))
			if t.Failed() {
				t.Fatalf("seed %d, after %v", seed, h.steps)
			}
		}
		consequences(t, p)
		tiers[1+p.Tier(here)]++
	}
	if slices.Min(tiers[:]) < 5 {
		t.Errorf("%d stories end in the tiers -1 to 2", tiers)
	}
}

// consequences checks what P14.6 says of the decisions about a single place.
func consequences(t *testing.T, p *Profile) {
	t.Helper()
	tier, failures := 0, 0
	for _, d := range p.Decisions() {
		if tier == -1 || d.Tier > tier+1 {
			t.Errorf("%v comes with the tier %d", d, tier)
		}
		if d.Tier <= tier {
			failures++
		}
		tier = d.Tier
	}
	if tier != p.Tier(here) || failures > 3 || (failures == 3) != (tier == -1) {
		t.Errorf("%v: the tier is %d, with %d failures", p.Decisions(), p.Tier(here), failures)
	}
}

// P14.6: several places in turn are each as if it were alone.
func TestPlacesInTurn(t *testing.T) {
	places := []api.Place{{}, {Fun: 0, Line: 1}, {Fun: 1, Line: 0}, {Fun: 1, Line: 1}, {Fun: -1, Line: 0}, {Fun: 0, Line: -1}}
	for seed := range int64(100) {
		r := rand.New(rand.NewSource(seed))
		sample, cold := 1+r.Intn(3), 1+r.Intn(3)
		all, alone := made(t, sample, 2, 3, cold), map[api.Place]*Profile{}
		for _, at := range places {
			alone[at] = made(t, sample, 2, 3, cold)
		}
		for range 200 {
			at, x := places[r.Intn(len(places))], some(r)
			if got, want := do(all, at, x), do(alone[at], at, x); got != want {
				t.Errorf("%v: %c %d is %t, alone %t", at, x.call, x.n, got, want)
			}
		}
		text, decisions := "", 0
		for _, at := range []api.Place{places[4], places[5], places[0], places[1], places[2], places[3]} {
			text += alone[at].Text()
			decisions += len(alone[at].Decisions())
			var own []Decision
			for _, d := range all.Decisions() {
				if d.Place == at {
					own = append(own, d)
				}
			}
			if !slices.Equal(own, alone[at].Decisions()) || all.Tier(at) != alone[at].Tier(at) {
				t.Errorf("%v: %v and %d, alone %v and %d", at, own, all.Tier(at), alone[at].Decisions(), alone[at].Tier(at))
			}
		}
		if all.Text() != text || len(all.Decisions()) != decisions {
			t.Errorf("%q with %d decisions, want %q with %d", all.Text(), len(all.Decisions()), text, decisions)
		}
		if t.Failed() {
			t.Fatalf("seed %d", seed)
		}
	}
}

// P14.6, R4: the same calls lead to the same decisions.
func TestTheSameCalls(t *testing.T) {
	run := func() (string, []Decision) {
		p, r, results := made(t, 2, 1, 3, 2), rand.New(rand.NewSource(5)), ""
		for range 2000 {
			at := api.Place{Fun: r.Intn(5), Line: r.Intn(20)}
			results += strconv.FormatBool(do(p, at, some(r)))
		}
		return results + p.Text(), p.Decisions()
	}
	first, decisions := run()
	for range 3 {
		if again, others := run(); first != again || !slices.Equal(decisions, others) {
			t.Error("a further run has other results")
		}
	}
}
