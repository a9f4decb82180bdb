package interp

import (
	"os"
	"runtime/debug"
	"slices"
	"strconv"
	"strings"
	"testing"

	"facsimile/api"
	"facsimile/check"
	"facsimile/code"
	"facsimile/lang"
	"facsimile/source"
)

func integer(n int) api.Value { return api.Value{Kind: api.Int, N: n} }

func str(s string) api.Value { return api.Value{Kind: api.Str, S: s} }

func ref(n int) api.Value { return api.Value{Kind: api.Ref, N: n} }

func place(fun, line int) api.Place { return api.Place{Fun: fun, Line: line} }

// parsed returns the program with this text, whose lines end with "; " or a byte 10.
func parsed(t *testing.T, text string) api.Program {
	t.Helper()
	p, at, e := lang.Parse(strings.TrimSuffix(strings.ReplaceAll(text, "; ", "\n"), "\n") + "\n")
	if e != api.OK {
		t.Fatalf("the test has a wrong text: error %d at %d of %q", e, at, text)
	}
	return p
}

// info returns the Info of a program that is right.
func info(t *testing.T, p api.Program) api.Info {
	t.Helper()
	i, at, e := check.Check(p)
	if e != api.OK {
		t.Fatalf("the test has a wrong program: error %d at %v of %q", e, at, lang.Print(p))
	}
	return i
}

// compiled returns the code of a program that is right.
func compiled(t *testing.T, p api.Program) api.Code {
	t.Helper()
	c, e := code.Compile(p, info(t, p))
	if e != api.OK {
		t.Fatalf("Compile: error %d of %q", e, lang.Print(p))
	}
	return c
}

// rich returns a world with these tenants, in which nothing runs out.
func rich(tenants int) api.World {
	return api.World{Fuel: slices.Repeat([]int{3000}, tenants), Limit: slices.Repeat([]int{api.MaxLimit}, tenants)}
}

// begun returns a machine at the beginning of a program.
func begun(t *testing.T, p api.Program, w api.World) *Machine {
	t.Helper()
	m, e := New(p, w)
	if e != api.OK || m == nil {
		t.Fatalf("New returns error %d for %q and %+v", e, lang.Print(p), w)
	}
	return m
}

// loaded returns a machine that goes on with an image.
func loaded(t *testing.T, p api.Program, c api.Code, w api.World, image api.Image) *Machine {
	t.Helper()
	m, e := Load(p, c, w, image)
	if e != api.OK || m == nil {
		t.Fatalf("Load returns error %d for %q,\n%s%+v and\n%s", e, lang.Print(p), code.Text(c), w, source.Text(image))
	}
	return m
}

// shown returns an event as a short text: its kind, thread/tenant, function.line, and its Text.
func shown(e api.Event) string {
	kinds := []string{"none", "print", "fault", "fuel", "end", "final", "epoch"}
	n := strconv.Itoa
	return strings.TrimSpace(kinds[e.Kind] + " " + n(e.Thread) + "/" + n(e.Tenant) + " " + n(e.Place.Fun) + "." + n(e.Place.Line) + " " + e.Text)
}

func allShown(events []api.Event) string {
	var l []string
	for _, e := range events {
		l = append(l, shown(e))
	}
	return strings.Join(l, "\n")
}

// same reports whether two images are equal, where a nil list is like an empty one.
func same(a, b api.Image) bool {
	frames := func(a, b api.Frame) bool {
		return a.Fun == b.Fun && a.Line == b.Line && slices.Equal(a.Vars, b.Vars) && slices.Equal(a.Pend, b.Pend)
	}
	threads := func(a, b api.Thread) bool {
		return a.Id == b.Id && a.Tenant == b.Tenant && slices.EqualFunc(a.Frames, b.Frames, frames)
	}
	entries := func(a, b api.Entry) bool {
		c, d := a.Cell, b.Cell
		return a.Id == b.Id && c.Kind == d.Kind && c.Class == d.Class && c.Fun == d.Fun && c.Tenant == d.Tenant && slices.Equal(c.Names, d.Names) && slices.Equal(c.Items, d.Items)
	}
	return slices.EqualFunc(a.Threads, b.Threads, threads) && slices.EqualFunc(a.Cells, b.Cells, entries) && slices.Equal(a.Finals, b.Finals) &&
		a.Next == b.Next && a.Born == b.Born && a.Now == b.Now && a.Steps == b.Steps && slices.Equal(a.Fuel, b.Fuel) && slices.Equal(a.Used, b.Used) &&
		a.In == b.In && a.Clock == b.Clock && a.Choice == b.Choice
}

// pair is a machine, and the source machine that it has to be like.
type pair struct {
	*testing.T
	what    string
	machine *Machine
	source  *source.Machine
}

// begunPair returns machines at the beginning of a program.
func begunPair(t *testing.T, p api.Program, w api.World) *pair {
	t.Helper()
	s, e := source.New(p, w)
	if e != api.OK {
		t.Fatalf("source.New returns error %d for %q and %+v", e, lang.Print(p), w)
	}
	two := &pair{t, lang.Print(p), begun(t, p, w), s}
	two.alike()
	return two
}

// loadedPair returns machines that go on with an image.
func loadedPair(t *testing.T, p api.Program, c api.Code, w api.World, image api.Image) *pair {
	t.Helper()
	s, e := source.Load(p, w, image)
	if e != api.OK {
		t.Fatalf("source.Load returns error %d for %q, %+v and\n%s", e, lang.Print(p), w, source.Text(image))
	}
	two := &pair{t, lang.Print(p) + code.Text(c), loaded(t, p, c, w, image), s}
	two.alike()
	return two
}

// alike checks that the image and the events are those of the source.
func (p *pair) alike() {
	p.Helper()
	if got, want := p.machine.Image(), p.source.Image(); !same(got, want) {
		p.Fatalf("image\n%s, want\n%s\nof\n%s", source.Text(got), source.Text(want), p.what)
	}
	if got, want := p.machine.Events(), p.source.Events(); !slices.Equal(got, want) {
		p.Fatalf("events\n%s\nwant\n%s\nof\n%s", allShown(got), allShown(want), p.what)
	}
}

// step steps both machines, and reports whether there was a step.
func (p *pair) step() bool {
	p.Helper()
	got, want := p.machine.Step(), p.source.Step()
	if got != want {
		p.Fatalf("Step returns %t, want %t, of\n%s", got, want, p.what)
	}
	p.alike()
	return got
}

// run steps both machines at most n times.
func (p *pair) run(n int) {
	p.Helper()
	for range n {
		if !p.step() {
			return
		}
	}
}

// hasHits checks the look-ups of a machine.
func hasHits(t *testing.T, what string, m *Machine, hits, misses int) {
	t.Helper()
	if gotHits, gotMisses := m.Hits(); gotHits != hits || gotMisses != misses {
		t.Errorf("%s: Hits returns %d, %d, want %d, %d", what, gotHits, gotMisses, hits, misses)
	}
}

// TestMain lets more garbage come together: most of these tests begin many runs, which make much of it.
func TestMain(m *testing.M) {
	debug.SetGCPercent(800)
	os.Exit(m.Run())
}
