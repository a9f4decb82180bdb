package source

import (
	"slices"
	"strconv"
	"strings"
	"testing"

	"facsimile/api"
	"facsimile/check"
	"facsimile/lang"
)

var (
	null  = api.Value{Kind: api.Nil}
	yes   = api.Value{Kind: api.Bool, N: 1}
	no    = api.Value{Kind: api.Bool}
	unset = api.Value{}
)

func ref(n int) api.Value { return api.Value{Kind: api.Ref, N: n} }

func integer(n int) api.Value { return api.Value{Kind: api.Int, N: n} }

func str(s string) api.Value { return api.Value{Kind: api.Str, S: s} }

func place(fun, line int) api.Place { return api.Place{Fun: fun, Line: line} }

// written returns lines as one text.
func written(lines ...string) string { return strings.Join(lines, "\n") + "\n" }

// parsed returns the program with this text.
func parsed(t *testing.T, text string) api.Program {
	t.Helper()
	p, at, e := lang.Parse(text)
	if e != api.OK {
		t.Fatalf("the test has a wrong text: error %d at %d of %q", e, at, text)
	}
	return p
}

// info returns the Info of a program that is right.
func info(t *testing.T, p api.Program) api.Info {
	t.Helper()
	i, at, e := check.Check(p)
	if e != api.OK {
		t.Fatalf("the test has a wrong program: error %d at %v", e, at)
	}
	return i
}

// rich returns a world with these tenants, in which nothing runs out.
func rich(tenants int) api.World {
	return api.World{Fuel: slices.Repeat([]int{1000}, tenants), Limit: slices.Repeat([]int{api.MaxLimit}, tenants)}
}

// begun returns a machine at the beginning of a program.
func begun(t *testing.T, text string, w api.World) *Machine {
	t.Helper()
	m, e := New(parsed(t, text), w)
	if e != api.OK {
		t.Fatalf("New returns error %d for %q and %+v", e, text, w)
	}
	return m
}

// loaded returns a machine that goes on with an image.
func loaded(t *testing.T, text string, w api.World, m api.Image) *Machine {
	t.Helper()
	l, e := Load(parsed(t, text), w, m)
	if e != api.OK {
		t.Fatalf("Load returns error %d for %q, %+v and %+v", e, text, w, m)
	}
	return l
}

// shown returns an event as a short text: its kind, thread/tenant, function.line, and its Text.
func shown(e api.Event) string {
	kinds := []string{"none", "print", "fault", "fuel", "end", "final", "epoch"}
	text := "?"
	if 0 <= e.Kind && e.Kind < len(kinds) {
		text = kinds[e.Kind]
	}
	n := strconv.Itoa
	return strings.TrimSpace(text + " " + n(e.Thread) + "/" + n(e.Tenant) + " " + n(e.Place.Fun) + "." + n(e.Place.Line) + " " + e.Text)
}

func allShown(events []api.Event) []string {
	var l []string
	for _, e := range events {
		l = append(l, shown(e))
	}
	return l
}

// sameEvents checks the events of a machine.
func sameEvents(t *testing.T, what string, m *Machine, want ...string) {
	t.Helper()
	if got := allShown(m.Events()); !slices.Equal(got, want) {
		t.Errorf("%s: events\n%s\nwant\n%s", what, strings.Join(got, "\n"), strings.Join(want, "\n"))
	}
}

// happens runs a program to its end, and checks its events.
func happens(t *testing.T, what, text string, w api.World, want ...string) *Machine {
	t.Helper()
	m := begun(t, text, w)
	m.Run(100000)
	if m.Step() {
		t.Fatalf("%s: does not end", what)
	}
	sameEvents(t, what, m, want...)
	return m
}

// same reports whether two images are equal, where a nil list is like an empty one.
func same(a, b api.Image) bool {
	frames := func(a, b api.Frame) bool {
		return a.Fun == b.Fun && a.Line == b.Line && slices.Equal(a.Vars, b.Vars) && slices.Equal(a.Pend, b.Pend)
	}
	threads := func(a, b api.Thread) bool {
		return a.Id == b.Id && a.Tenant == b.Tenant && slices.EqualFunc(a.Frames, b.Frames, frames)
	}
	return slices.EqualFunc(a.Threads, b.Threads, threads) && slices.EqualFunc(a.Cells, b.Cells, sameEntry) && slices.Equal(a.Finals, b.Finals) &&
		a.Next == b.Next && a.Born == b.Born && a.Now == b.Now && a.Steps == b.Steps && slices.Equal(a.Fuel, b.Fuel) && slices.Equal(a.Used, b.Used) &&
		a.In == b.In && a.Clock == b.Clock && a.Choice == b.Choice
}

func sameEntry(a, b api.Entry) bool {
	c, d := a.Cell, b.Cell
	return a.Id == b.Id && c.Kind == d.Kind && c.Class == d.Class && c.Fun == d.Fun && c.Tenant == d.Tenant && slices.Equal(c.Names, d.Names) && slices.Equal(c.Items, d.Items)
}

// isImage checks an image.
func isImage(t *testing.T, what string, got, want api.Image) {
	t.Helper()
	if !same(got, want) {
		t.Errorf("%s: image\n%+v\nwant\n%+v", what, got, want)
	}
}
