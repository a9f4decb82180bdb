package source

import (
	"math"
	"slices"
	"testing"

	"facsimile/api"
	"facsimile/check"
)

const greeting = "func main\nx = 'hello'\nprint x\nendfunc\n"

// refusedPrograms returns programs that check.Check refuses, each for another reason.
func refusedPrograms() map[api.Errno]api.Program {
	lines := func(l ...api.Line) api.Program { return api.Program{Funcs: []api.Func{{Name: "main", Lines: l}}} }
	return map[api.Errno]api.Program{
		api.ErrMain:  {},
		api.ErrMany:  {Classes: make([]api.Class, api.MaxClasses+1)},
		api.ErrForm:  lines(api.Line{Op: api.OpPrint}),
		api.ErrName:  {Funcs: []api.Func{{Name: "main", Params: []string{"if"}}}},
		api.ErrNone:  lines(api.Line{Op: api.OpCall, A: "a", Name: "f"}),
		api.ErrBlock: lines(api.Line{Op: api.OpTry}),
		api.ErrArity: lines(api.Line{Op: api.OpCall, A: "a", Name: "main", Args: []string{"b"}}),
	}
}

// refusedWorlds returns worlds that account.Right refuses.
func refusedWorlds() []api.World {
	w := func(change func(*api.World)) api.World {
		w := rich(2)
		change(&w)
		return w
	}
	return []api.World{
		{},
		rich(5),
		w(func(w *api.World) { w.Inputs = []api.Value{unset} }),
		w(func(w *api.World) { w.Inputs = []api.Value{ref(0)} }),
		w(func(w *api.World) { w.Inputs = make([]api.Value, 1001) }),
		w(func(w *api.World) { w.Clocks = []int{api.MaxInt + 1} }),
		w(func(w *api.World) { w.Choices = []int{1000000001} }),
		w(func(w *api.World) { w.Fuel = []int{1, -1} }),
		w(func(w *api.World) { w.Fuel = []int{1} }),
		w(func(w *api.World) { w.Limit = []int{1, api.MaxLimit + 1} }),
		w(func(w *api.World) { w.Epoch = -1 }),
	}
}

func isNothing(t *testing.T, what string, m *Machine, e, want api.Errno) {
	t.Helper()
	if m != nil || e != want {
		t.Errorf("%s: %v and error %d, not %d", what, m, e, want)
	}
}

// P7.1, R2: programs that are refused, in any world, for a new machine and a loaded one.
func TestRefusedPrograms(t *testing.T) {
	for want, p := range refusedPrograms() {
		if _, _, e := check.Check(p); e != want {
			t.Fatalf("the test has a wrong program: error %d, not %d", e, want)
		}
		for _, w := range append(refusedWorlds(), rich(1)) {
			m, e := New(p, w)
			isNothing(t, "New", m, e, want)
			m, e = Load(p, w, api.Image{})
			isNothing(t, "Load", m, e, want)
			m, e = Load(p, w, Begin(parsed(t, greeting), rich(1)))
			isNothing(t, "Load", m, e, want)
			isImage(t, "Begin", Begin(p, w), api.Image{})
		}
	}
}

// P7.1: worlds that are refused.
func TestRefusedWorlds(t *testing.T) {
	p := parsed(t, greeting)
	for n, w := range refusedWorlds() {
		m, e := New(p, w)
		isNothing(t, "New", m, e, api.ErrArg)
		for _, image := range []api.Image{{}, Begin(p, rich(1)), Begin(p, rich(2))} {
			m, e = Load(p, w, image)
			isNothing(t, "Load", m, e, api.ErrArg)
		}
		if got := Begin(p, w); !same(got, api.Image{}) {
			t.Errorf("Begin in the world number %d: %+v", n, got)
		}
	}
}

// P7.1: images that are refused, in a world and a program that are right.
func TestRefusedImages(t *testing.T) {
	p, w := parsed(t, greeting), rich(2)
	for what, change := range map[string]func(*api.Image){
		"zero":              func(m *api.Image) { *m = api.Image{} },
		"of another world":  func(m *api.Image) { *m = Begin(p, rich(1)) },
		"without a thread":  func(m *api.Image) { m.Threads = nil },
		"at the end":        func(m *api.Image) { m.Threads[0].Frames[0].Line = 2 },
		"with a dead value": func(m *api.Image) { m.Threads[0].Frames[0].Vars[0] = null },
	} {
		image := Begin(p, w)
		change(&image)
		m, e := Load(p, w, image)
		isNothing(t, what, m, e, api.ErrArg)
	}
}

// P7.1: the image at the beginning; main need not be the first function, and the world may have several tenants.
func TestBegin(t *testing.T) {
	w := api.World{Inputs: []api.Value{yes}, Clocks: []int{5}, Choices: []int{6}, Fuel: []int{3, 0, 7}, Limit: []int{1, 2, 3}, Epoch: 4}
	for n, text := range []string{
		"func main\nx = y\nprint z\nendfunc\n",
		"func f a\nprint a\nendfunc\nfunc main\nx = y\nprint z\nendfunc\n",
		"class c x\nfunc f a\nprint a\nendfunc\nfunc g a b\nendfunc\nfunc main\nx = y\nprint z\nendfunc\nfunc h\nendfunc\n",
	} {
		want := api.Image{
			Threads: []api.Thread{{Frames: []api.Frame{{Fun: n, Vars: make([]api.Value, 3)}}}},
			Born:    1, Fuel: []int{3, 0, 7}, Used: []int{0, 0, 0},
		}
		isImage(t, "Begin", Begin(parsed(t, text), w), want)
		m := begun(t, text, w)
		isImage(t, "New", m.Image(), want)
		sameEvents(t, "New", m)
	}
}

// P7.1: main without lines has no thread; a new machine has its end as event, and a loaded one nothing.
func TestMainWithoutLines(t *testing.T) {
	for n, text := range []string{"func main\nendfunc\n", "func f\nx = 1\nendfunc\nfunc main\nendfunc\n"} {
		w := rich(2)
		want := api.Image{Born: 1, Now: -1, Fuel: []int{1000, 1000}, Used: []int{0, 0}}
		isImage(t, "Begin", Begin(parsed(t, text), w), want)
		m := begun(t, text, w)
		l := loaded(t, text, w, want)
		for _, m := range []*Machine{m, l} {
			isImage(t, "main without lines", m.Image(), want)
			if m.Step() || m.Run(5) != 0 {
				t.Error("a step of nobody")
			}
			isImage(t, "after no step", m.Image(), want)
		}
		sameEvents(t, "New", m, "end 0/0 "+[]string{"0", "1"}[n]+".0 nil")
		sameEvents(t, "Load", l)
	}
}

// P7.1: a loaded machine has its image, and no events, and goes on from it.
func TestLoad(t *testing.T) {
	w := rich(1)
	first := begun(t, greeting, w)
	for n, want := range [][]string{{"print 0/0 0.1 hello", "end 0/0 0.2 nil"}, {"print 0/0 0.1 hello", "end 0/0 0.2 nil"}, nil} {
		m := loaded(t, greeting, w, first.Image())
		isImage(t, "loaded", m.Image(), first.Image())
		sameEvents(t, "loaded", m)
		if steps := m.Run(10); steps != 2-n {
			t.Errorf("%d steps after %d", steps, n)
		}
		sameEvents(t, "loaded", m, want...)
		first.Step()
	}
}

// The head of the chapter: on a nil or zero Machine there is nothing.
func TestNoMachine(t *testing.T) {
	for what, m := range map[string]*Machine{"nil": nil, "zero": {}} {
		for _, n := range []int{math.MinInt, -1, 0, 1, 100, math.MaxInt} {
			if steps := m.Run(n); steps != 0 {
				t.Errorf("%s: Run(%d) = %d", what, n, steps)
			}
		}
		if m.Step() {
			t.Errorf("%s: Step is true", what)
		}
		isImage(t, what, m.Image(), api.Image{})
		if events := m.Events(); len(events) > 0 {
			t.Errorf("%s: events %v", what, events)
		}
	}
}

// P7.1: New, Load and Begin agree on which programs and worlds there are, in any order of calls.
func TestBeginIsLoaded(t *testing.T) {
	for seed := range uint64(40) {
		text, w := random(t, 40000+seed)
		begin := Begin(parsed(t, text), w)
		one, other := begun(t, text, w), loaded(t, text, w, begin)
		isImage(t, "New", one.Image(), begin)
		if one.Run(60) != other.Run(60) || !slices.Equal(one.Events(), other.Events()) {
			t.Errorf("seed %d: events %v, and %v", seed, allShown(one.Events()), allShown(other.Events()))
		}
		isImage(t, "60 steps", one.Image(), other.Image())
	}
}
