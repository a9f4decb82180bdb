package source

import (
	"math/rand/v2"
	"slices"
	"strings"
	"testing"

	"facsimile/account"
	"facsimile/api"
	"facsimile/live"
)

// seen counts what happened in many runs, so that a test can tell that it has met all of it.
type seen map[string]int

func (s seen) has(t *testing.T, least int, names ...string) {
	t.Helper()
	for _, name := range names {
		if s[name] < least {
			t.Errorf("%s: only %d times", name, s[name])
		}
	}
}

// note counts what there is in an image.
func (s seen) note(m api.Image) {
	for _, th := range m.Threads {
		for _, f := range th.Frames {
			for _, d := range f.Pend {
				s[[]string{"pending nothing", "pending throw", "pending return"}[d.Kind]]++
			}
		}
		if len(th.Frames) == api.MaxFrames {
			s["40 frames"]++
		}
	}
	if len(m.Threads) == api.MaxThreads {
		s["16 threads"]++
	}
}

// P7.3 to P7.7: programs that are written at random, step by step against the model.
func TestAgainstModel(t *testing.T) {
	met := seen{}
	for seed := range uint64(400) {
		text, w := random(t, seed)
		m := begun(t, text, w)
		p := parsed(t, text)
		o := newModel(p, info(t, p), w, m.Image())
		for more := true; more; {
			more = m.Step()
			if o.step() != more {
				t.Fatalf("seed %d: Step returns %t after %+v", seed, more, o.before)
			}
			if got, want := m.Image(), o.visible(); !same(got, want) {
				t.Fatalf("seed %d: image\n%s, want\n%s\nafter\n%s\nof %s\nin %+v", seed, Text(got), Text(want), Text(o.before), text, w)
			}
			met.note(o.image)
		}
		if !slices.Equal(m.Events(), o.events) {
			t.Fatalf("seed %d: events\n%s, want\n%s", seed, allShown(m.Events()), allShown(o.events))
		}
		for _, e := range o.events {
			met[strings.Fields(shown(e))[0]]++
		}
		for name, n := range o.met {
			met[name] += n
		}
	}
	met.has(t, 100, "print", "fault", "fuel", "end", "final", "epoch", "pending nothing", "pending throw", "pending return", "40 frames", "16 threads")
	met.has(t, 12, "fault type", "fault unset", "fault zero", "fault field", "fault bounds", "fault range", "fault bytes", "fault arity", "fault method", "fault tenant", "fault threads", "fault stack")
}

// visible returns the image with those cells alone that can be asked for.
func (o *model) visible() api.Image {
	m := Copy(o.image)
	seen := map[int]bool{}
	var values []api.Value
	for _, t := range m.Threads {
		for _, f := range t.Frames {
			values = append(values, f.Vars...)
			for _, d := range f.Pend {
				values = append(values, d.Value)
			}
		}
	}
	for len(values) > 0 {
		v := values[0]
		values = values[1:]
		if v.Kind != api.Ref || seen[v.N] {
			continue
		}
		seen[v.N] = true
		for _, e := range m.Cells {
			if e.Id == v.N {
				values = append(values, e.Cell.Items...)
			}
		}
	}
	m.Cells = slices.DeleteFunc(m.Cells, func(e api.Entry) bool { return !seen[e.Id] })
	return m
}

// P7.9, P7.8: images of machines are right, and texts of them are read; a machine that is loaded with one goes on alike.
func TestImagesGoOn(t *testing.T) {
	for seed := range uint64(40) {
		text, w := random(t, 10000+seed)
		p := parsed(t, text)
		i := info(t, p)
		r := rand.New(rand.NewPCG(8, seed))
		m := begun(t, text, w)
		for step := 0; ; step++ {
			if image := m.Image(); r.IntN(3) == 0 {
				if !Right(p, i, w, image) {
					t.Fatalf("seed %d: the image after %d steps is not right: %s", seed, step, Text(image))
				}
				if !same(live.Clear(p, i, image), image) {
					t.Fatalf("seed %d: live.Clear changes the image after %d steps: %s", seed, step, Text(image))
				}
				if back, ok := Read(Text(image)); !ok || !same(back, image) {
					t.Fatalf("seed %d: Read of the text after %d steps: %+v", seed, step, back)
				}
			}
			if r.IntN(40) == 0 {
				goesOnAlike(t, text, w, m, step)
			}
			if !m.Step() {
				break
			}
		}
	}
}

// goesOnAlike checks that a machine which is loaded with the image of another one, after this many steps, does the same as one that went the whole way.
func goesOnAlike(t *testing.T, text string, w api.World, m *Machine, steps int) {
	t.Helper()
	image, events := m.Image(), m.Events()
	one, other, whole := loaded(t, text, w, image), loaded(t, text, w, image), begun(t, text, w)
	isImage(t, "loaded", one.Image(), image)
	if len(one.Events()) > 0 {
		t.Fatalf("a loaded machine has the events %v", one.Events())
	}
	whole.Run(steps)
	isImage(t, "the whole way", whole.Image(), image)
	n := one.Run(150)
	if other.Run(150) != n || whole.Run(150) != n {
		t.Fatalf("%d steps of one machine, and others of the other ones", n)
	}
	isImage(t, "loaded once more", other.Image(), one.Image())
	isImage(t, "further on the whole way", whole.Image(), one.Image())
	if later := whole.Events()[len(events):]; !slices.Equal(one.Events(), other.Events()) || !slices.Equal(one.Events(), later) {
		t.Fatalf("events\n%s, and\n%s", allShown(one.Events()), allShown(later))
	}
}

// P7.9: each step charges at most 1, and Used is at least what the cells are together; after an epoch it is what is reached.
func TestCharges(t *testing.T) {
	for seed := range uint64(100) {
		text, w := random(t, 20000+seed)
		p := parsed(t, text)
		i := info(t, p)
		m := begun(t, text, w)
		o := newModel(p, i, w, m.Image())
		events := 0
		for before := m.Image(); m.Step(); {
			after := m.Image()
			charged := 0
			for tenant, left := range after.Fuel {
				charged += before.Fuel[tenant] - left
			}
			if charged != after.Steps-before.Steps || charged < 0 || charged > 1 {
				t.Fatalf("seed %d: %d charged between\n%s and\n%s", seed, charged, Text(before), Text(after))
			}
			for tenant, sum := range account.Sums(after.Cells, len(w.Fuel)) {
				if after.Used[tenant] < sum || after.Used[tenant] > w.Limit[tenant] {
					t.Fatalf("seed %d: %d used, %d in %s", seed, after.Used[tenant], sum, Text(after))
				}
			}
			if all := m.Events(); len(all) > events && all[len(all)-1].Kind == api.EvEpoch && account.Due(after.Steps, w.Epoch) {
				sumsAreUsed(t, o, after)
			}
			events = len(m.Events())
			before = after
		}
	}
}

// sumsAreUsed checks that Used is what the cells of an image take that are reached.
func sumsAreUsed(t *testing.T, o *model, m api.Image) {
	t.Helper()
	o.image = Copy(m)
	o.epoch(live.Roots(o.program, o.info, m))
	if !slices.Equal(o.image.Used, m.Used) {
		t.Fatalf("used %v after an epoch, but %v are reached in %s", m.Used, o.image.Used, Text(m))
	}
}

// P7.9: with more fuel and greater limits nothing changes up to the first EvFuel, the first epoch at once, or the first fault `bytes`.
func TestMoreOfAll(t *testing.T) {
	compared := 0
	for seed := range uint64(150) {
		text, w := random(t, 30000+seed)
		_, richer := random(t, 30000+seed)
		for tenant := range w.Fuel {
			richer.Fuel[tenant] += 1 + int(seed)%7
			richer.Limit[tenant] = min(api.MaxLimit, richer.Limit[tenant]+16*(int(seed)%5))
		}
		m, more := begun(t, text, w), begun(t, text, richer)
		for m.Step() && !poorer(m, w) {
			more.Step()
			got, want := more.Image(), m.Image()
			for tenant := range w.Fuel {
				want.Fuel[tenant] += richer.Fuel[tenant] - w.Fuel[tenant]
			}
			if !same(got, want) || !slices.Equal(more.Events(), m.Events()) {
				t.Fatalf("seed %d: image\n%s, want\n%s", seed, Text(got), Text(want))
			}
			compared++
		}
	}
	if compared < 10000 {
		t.Errorf("only %d steps are compared", compared)
	}
}

// poorer reports whether the last step of a machine had an EvFuel, or an epoch at once.
func poorer(m *Machine, w api.World) bool {
	steps := m.Image().Steps
	epochs := 0
	for _, e := range m.Events() {
		if e.Kind == api.EvFuel {
			return true
		}
		if e.Kind == api.EvEpoch {
			epochs++
		}
	}
	due := 0
	if w.Epoch > 0 {
		due = steps / w.Epoch
	}
	return epochs > due
}
