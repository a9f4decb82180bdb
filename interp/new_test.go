package interp

import (
	"testing"

	"facsimile/api"
	"facsimile/check"
	"facsimile/code"
	"facsimile/source"
	"facsimile/verify"
)

// wrongPrograms returns programs that check.Check refuses.
func wrongPrograms(t *testing.T) []api.Program {
	t.Helper()
	many := parsed(t, "func main; endfunc")
	for len(many.Funcs) < 25 {
		many.Funcs = append(many.Funcs, api.Func{Name: "f" + string(rune('a'+len(many.Funcs)))})
	}
	form := parsed(t, "func main; x = 1; endfunc")
	form.Funcs[0].Lines[0].B = "y"
	return []api.Program{
		{}, many, form,
		parsed(t, "func f; endfunc"),
		parsed(t, "func main x; endfunc"),
		parsed(t, "class P; class P; func main; endfunc"),
		parsed(t, "func main; x = call f; endfunc"),
		parsed(t, "func main; x = call main x; endfunc"),
		parsed(t, "func main; try; endfunc"),
	}
}

// wrongWorlds returns worlds that account.Right refuses.
func wrongWorlds() []api.World {
	return []api.World{
		{},
		{Fuel: []int{-1}, Limit: []int{0}},
		{Fuel: []int{1}, Limit: []int{api.MaxLimit + 1}},
		{Fuel: []int{1, 1}, Limit: []int{1}},
		{Fuel: []int{1}, Limit: []int{1}, Inputs: []api.Value{ref(0)}},
		{Fuel: []int{1}, Limit: []int{1}, Epoch: -1},
	}
}

// refusesNew checks that New returns an error, and no machine.
func refusesNew(t *testing.T, p api.Program, w api.World, want api.Errno) {
	t.Helper()
	if m, e := New(p, w); e != want || m != nil {
		t.Errorf("New returns %v and error %d, want %d, for %+v in %+v", m, e, want, p, w)
	}
	if _, e := source.New(p, w); e != want {
		t.Errorf("source.New returns %d, but New %d", e, want)
	}
}

// P13.1: New returns the errors of source.New.
func TestNewRefuses(t *testing.T) {
	right := parsed(t, "func main; x = 1; endfunc")
	seen := map[api.Errno]bool{}
	for _, p := range wrongPrograms(t) {
		_, _, e := check.Check(p)
		seen[e] = true
		refusesNew(t, p, rich(1), e)
		for _, w := range wrongWorlds() {
			refusesNew(t, p, w, e)
		}
	}
	if len(seen) != 7 || seen[api.OK] {
		t.Errorf("the programs have the errors %v", seen)
	}
	for _, w := range wrongWorlds() {
		refusesNew(t, right, w, api.ErrArg)
	}
}

// P13.1: a new machine has the image that source.Begin returns, and the events of source.New.
func TestNewBegins(t *testing.T) {
	for _, text := range []string{
		"func main; endfunc",
		"func main; x = 1; endfunc",
		"func f a b; endfunc; func main; x = 1; y = 2; endfunc",
		"func f a; x = a; endfunc; func main; endfunc",
		"func main; yield; endfunc",
		"func main; try; try; x = 1; catch e; end; finally; end; endfunc",
	} {
		p := parsed(t, text)
		for _, w := range []api.World{rich(1), rich(4), {Fuel: []int{0}, Limit: []int{0}, Epoch: 1}, {Fuel: []int{7, 3}, Limit: []int{9, 0}, Inputs: []api.Value{str("a")}, Clocks: []int{3}, Choices: []int{-1}}} {
			m := begun(t, p, w)
			if got, want := m.Image(), source.Begin(p, w); !same(got, want) {
				t.Errorf("%s: image\n%s, want\n%s", text, source.Text(got), source.Text(want))
			}
			s, _ := source.New(p, w)
			if got, want := allShown(m.Events()), allShown(s.Events()); got != want {
				t.Errorf("%s: events %q, want %q", text, got, want)
			}
			begunPair(t, p, w).run(20)
		}
	}
	if got := allShown(begun(t, parsed(t, "func f; x = 1; endfunc; func main; endfunc"), rich(1)).Events()); got != "end 0/0 1.0 nil" {
		t.Errorf("events %q of a main without lines", got)
	}
}

// refusesLoad checks that Load returns an error, and no machine.
func refusesLoad(t *testing.T, what string, p api.Program, c api.Code, w api.World, image api.Image, want api.Errno) {
	t.Helper()
	if m, e := Load(p, c, w, image); e != want || m != nil {
		t.Errorf("%s: Load returns %v and error %d, want %d", what, m, e, want)
	}
}

// running returns a program that is in the middle of many things, its code, a world and an image.
func running(t *testing.T) (api.Program, api.Code, api.World, api.Image) {
	t.Helper()
	p := parsed(t, "class P x; method m f; func main; a = new P; n = 2; r = array n; spawn 1 g a; try; v = send a m n; finally; print r; end; print a; endfunc; func f a n; try; throw n; finally; a.x = n; print n; end; endfunc; func g a; yield; a = weak a; endfunc")
	w := api.World{Fuel: []int{100, 100}, Limit: []int{500, 500}, Choices: []int{1}}
	s, e := source.New(p, w)
	if e != api.OK || s.Run(8) != 8 {
		t.Fatalf("error %d", e)
	}
	image := s.Image()
	if top := image.Threads[0].Frames; len(top) != 2 || top[1].Line != 3 || len(top[1].Pend) != 1 || len(image.Cells) != 2 {
		t.Fatalf("the image is %s", source.Text(image))
	}
	return p, compiled(t, p), w, image
}

// wrongImages returns images that source.Right refuses, each with one thing wrong.
func wrongImages(t *testing.T) map[string]api.Image {
	t.Helper()
	_, _, _, image := running(t)
	all := map[string]api.Image{"nothing": {}}
	change := func(what string, f func(m *api.Image)) {
		m := source.Copy(image)
		f(&m)
		all[what] = m
	}
	change("Now", func(m *api.Image) { m.Now = 7 })
	change("Born", func(m *api.Image) { m.Born = 1 })
	change("a function", func(m *api.Image) { m.Threads[0].Frames[1].Fun = 9 })
	change("a line", func(m *api.Image) { m.Threads[0].Frames[1].Line = 77 })
	change("a line of a frame that waits", func(m *api.Image) { m.Threads[0].Frames[0].Line = 0 })
	change("the end", func(m *api.Image) { m.Threads[1].Frames[0].Line = 2 })
	change("variables", func(m *api.Image) { m.Threads[0].Frames[1].Vars = nil })
	change("a variable that is not live", func(m *api.Image) { m.Threads[0].Frames[0].Vars[1] = integer(1) })
	change("Pend", func(m *api.Image) { m.Threads[0].Frames[1].Pend = nil })
	change("Cells", func(m *api.Image) { m.Cells = nil })
	change("Next", func(m *api.Image) { m.Next = 0 })
	change("a class", func(m *api.Image) { m.Cells[0].Cell.Class = 1 })
	change("Fuel", func(m *api.Image) { m.Fuel = nil })
	change("Used", func(m *api.Image) { m.Used[0] = 0 })
	change("Steps", func(m *api.Image) { m.Steps = -1 })
	change("Choice", func(m *api.Image) { m.Choice = 2 })
	return all
}

// wrongCodes returns codes that verify.Check refuses.
func wrongCodes(t *testing.T) map[api.Errno]api.Code {
	t.Helper()
	p, right, _, _ := running(t)
	all := map[api.Errno]api.Code{}
	for n, change := range []func(c *api.Code){
		func(c *api.Code) { *c = api.Code{} },
		func(c *api.Code) { c.Names[1] = "h" },
		func(c *api.Code) { c.Funcs[1].Ins[0].Op = api.OpReturn },
		func(c *api.Code) { c.Funcs[0].Slots++ },
		func(c *api.Code) { c.Funcs[2].Ins[1].A = 1 },
		func(c *api.Code) { c.Funcs[2].Ins = c.Funcs[2].Ins[:1] },
		func(c *api.Code) { c.Funcs[2].Ins[0].Lines = nil },
		func(c *api.Code) { c.Funcs[1].Handlers = nil },
	} {
		c := cloned(right)
		change(&c)
		_, e := verify.Check(p, info(t, p), c)
		if e == api.OK || code.Equal(c, right) {
			t.Errorf("the code number %d is right", n)
		}
		all[e] = c
	}
	if len(all) != 5 {
		t.Errorf("the codes have %d different errors", len(all))
	}
	return all
}

// P13.1: Load returns the error of check.Check; ErrArg, if source.Right is false; or the error of verify.Check, in this order.
func TestLoadRefuses(t *testing.T) {
	p, c, w, image := running(t)
	codes, images := wrongCodes(t), wrongImages(t)
	loaded(t, p, c, w, image)
	for e, wrong := range codes {
		refusesLoad(t, "a wrong code", p, wrong, w, image, e)
	}
	for what, wrong := range images {
		if source.Right(p, info(t, p), w, wrong) {
			t.Errorf("the image with another %s is right", what)
		}
		refusesLoad(t, what, p, c, w, wrong, api.ErrArg)
		for _, other := range codes {
			refusesLoad(t, "a wrong code, and "+what, p, other, w, wrong, api.ErrArg)
		}
	}
	for _, wrong := range append(wrongWorlds(), rich(1)) {
		refusesLoad(t, "a wrong world", p, c, wrong, image, api.ErrArg)
		refusesLoad(t, "a wrong world and a wrong code", p, api.Code{}, wrong, image, api.ErrArg)
	}
	for _, wrong := range wrongPrograms(t) {
		_, _, e := check.Check(wrong)
		refusesLoad(t, "a wrong program", wrong, c, w, image, e)
		refusesLoad(t, "a wrong program and nothing else", wrong, api.Code{}, api.World{}, api.Image{}, e)
	}
	other := parsed(t, "func main; x = 1; endfunc")
	refusesLoad(t, "the image of another program", other, compiled(t, other), w, image, api.ErrArg)
	refusesLoad(t, "the code of another program", other, c, w, source.Begin(other, w), api.ErrCode)
}

// P13.1: a machine that is loaded has this image, and no events.
func TestLoadGoesOn(t *testing.T) {
	p, c, w, image := running(t)
	two := loadedPair(t, p, c, w, image)
	if got := two.machine.Image(); !same(got, image) {
		t.Errorf("image\n%s, want\n%s", source.Text(got), source.Text(image))
	}
	if len(two.machine.Events()) > 0 {
		t.Errorf("events %v", two.machine.Events())
	}
	two.run(100)
	if len(two.machine.Events()) == 0 {
		t.Errorf("no events")
	}
	empty := parsed(t, "func main; endfunc")
	m := loaded(t, empty, compiled(t, empty), w, source.Begin(empty, w))
	if len(m.Events()) > 0 || m.Step() {
		t.Errorf("events %v of a machine without threads", m.Events())
	}
	ended := loadedPair(t, p, c, w, two.machine.Image())
	if ended.run(1); len(ended.machine.Events()) > 0 {
		t.Errorf("events %v of a run that has ended", ended.machine.Events())
	}
}
