package interp

import (
	"slices"
	"testing"

	"facsimile/api"
	"facsimile/code"
	"facsimile/source"
)

// met counts what happened in many runs, so that a test can tell that it has met all of it.
type met map[string]int

func (m met) has(t *testing.T, least int, names ...string) {
	t.Helper()
	for _, name := range names {
		if m[name] < least {
			t.Errorf("%s: only %d times", name, m[name])
		}
	}
}

// note counts what there is in an image.
func (m met) note(image api.Image) {
	for _, th := range image.Threads {
		for _, f := range th.Frames {
			for _, d := range f.Pend {
				m[[]string{"pending nothing", "pending throw", "pending return"}[d.Kind]]++
			}
		}
		if len(th.Frames) == api.MaxFrames {
			m["40 frames"]++
		}
	}
	if len(image.Threads) == api.MaxThreads {
		m["16 threads"]++
	}
}

// events counts events.
func (m met) events(events []api.Event) {
	kinds := []string{"none", "print", "fault", "fuel", "end", "final", "epoch"}
	for _, e := range events {
		m[kinds[e.Kind]]++
		if e.Kind == api.EvPrint || e.Kind == api.EvFault {
			m["text "+e.Text]++
		}
	}
}

// P13.2, T1, T5, R6: programs that are written at random, step by step like the source, with the code that Compile returns and with others.
func TestRandomPrograms(t *testing.T) {
	t.Parallel()
	m := met{}
	for seed := range uint64(200) {
		p, w, r := random(t, seed)
		begun := begunPair(t, p, w)
		varied := loadedPair(t, p, variedCode(t, r, p), w, source.Begin(p, w))
		for begun.step() {
			m.note(begun.source.Image())
		}
		for varied.step() {
		}
		m.events(begun.source.Events())
	}
	m.has(t, 20, "print", "fault", "fuel", "end", "final", "epoch", "pending nothing", "pending throw", "pending return", "16 threads")
	m.has(t, 2, "40 frames", "text type", "text unset", "text zero", "text field", "text bounds", "text range", "text bytes", "text arity", "text method", "text tenant", "text threads", "text stack")
}

// P13.6, T1: an image is given from one tier to the other, between any two lines, in any order, and shapes are merged and split, but the run is that of the source.
func TestTiersInTurns(t *testing.T) {
	t.Parallel()
	m := met{}
	for seed := range uint64(100) {
		p, w, r := random(t, 1000+seed)
		whole, e := source.New(p, w)
		if e != api.OK {
			t.Fatal(e)
		}
		var events []api.Event
		image := source.Begin(p, w)
		codes := []api.Code{compiled(t, p), variedCode(t, r, p), variedCode(t, r, p)}
		for more := true; more; {
			n := 1 + r.IntN(1+r.IntN(60))
			steps := whole.Run(n)
			more = steps == n
			if r.IntN(4) == 0 {
				s, _ := source.Load(p, w, image)
				s.Run(n)
				image = s.Image()
				events = append(events, s.Events()...)
				continue
			}
			c := codes[r.IntN(len(codes))]
			tier := loaded(t, p, c, w, image)
			for done := 0; done < n; {
				a := r.IntN(9)
				if split, e := tier.Split(a); e == api.OK && r.IntN(2) == 0 {
					m["split"]++
					if tier.Merge(split, a) == api.OK {
						m["merged"]++
					}
				}
				part := 1 + r.IntN(n-done)
				if tier.Run(part) < part {
					break
				}
				done += part
			}
			image = tier.Image()
			events = append(events, tier.Events()...)
			if want := whole.Image(); !same(image, want) {
				t.Fatalf("seed %d: image\n%s, want\n%s with\n%s", seed, source.Text(image), source.Text(want), code.Text(c))
			}
			m["turns"]++
		}
		if !slices.Equal(events, whole.Events()) {
			t.Fatalf("seed %d: events\n%s\nwant\n%s", seed, allShown(events), allShown(whole.Events()))
		}
	}
	m.has(t, 200, "turns", "merged", "split")
}
