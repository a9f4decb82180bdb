package interp

import (
	"reflect"
	"slices"
	"testing"

	"facsimile/api"
	"facsimile/check"
	"facsimile/code"
	"facsimile/source"
)

// spoil overwrites a list, and what is behind it in its memory.
func spoil[T any](list []T, with T) {
	for n := range list[:cap(list)] {
		list[:cap(list)][n] = with
	}
}

func spoilImage(m api.Image) {
	for _, t := range m.Threads {
		for _, f := range t.Frames {
			spoil(f.Vars, str("spoilt"))
			spoil(f.Pend, api.Pending{Kind: 9})
		}
		spoil(t.Frames, api.Frame{Fun: 77})
	}
	for _, e := range m.Cells {
		spoil(e.Cell.Names, "spoilt")
		spoil(e.Cell.Items, str("spoilt"))
	}
	spoil(m.Threads, api.Thread{Id: -7})
	spoil(m.Cells, api.Entry{Id: -7})
	spoil(m.Finals, api.Final{Cell: -7})
	spoil(m.Fuel, -7)
	spoil(m.Used, -7)
}

func spoilClasses(classes []api.Class) {
	for _, c := range classes {
		spoil(c.Fields, "spoilt")
		spoil(c.Methods, api.Method{Name: "spoilt", Func: "spoilt"})
	}
	spoil(classes, api.Class{})
}

func spoilProgram(p api.Program) {
	spoilClasses(p.Classes)
	for _, f := range p.Funcs {
		for _, l := range f.Lines {
			spoil(l.Args, "spoilt")
		}
		spoil(f.Params, "spoilt")
		spoil(f.Lines, api.Line{Op: api.OpEnd})
	}
	spoil(p.Funcs, api.Func{})
}

func spoilCode(c api.Code) {
	spoilClasses(c.Classes)
	spoil(c.Names, "spoilt")
	for _, f := range c.Funcs {
		for _, ins := range f.Ins {
			spoil(ins.Args, -7)
			spoil(ins.Lines, -7)
		}
		spoil(f.Ins, api.Instr{Op: -7})
		spoil(f.Handlers, api.Handler{Target: -7})
	}
	spoil(c.Funcs, api.CodeFunc{})
}

func spoilWorld(w api.World) {
	spoil(w.Inputs, str("spoilt"))
	spoil(w.Clocks, 77)
	spoil(w.Choices, 77)
	spoil(w.Fuel, 77)
	spoil(w.Limit, 0)
}

// R3: a machine shares no memory with the program, the code, the world and the image that were passed, nor with images and events that it has returned.
func TestMemoryOfMachines(t *testing.T) {
	t.Parallel()
	for seed := range uint64(60) {
		p, w, r := random(t, 5000+seed)
		given, first, _ := random(t, 5000+seed)
		one, e := New(given, first)
		if e != api.OK {
			t.Fatal(e)
		}
		twin := begunPair(t, p, w)
		spoilProgram(given)
		spoilWorld(first)
		spoilImage(one.Image())
		one.Run(40)
		twin.run(40)
		twin.machine = one // which has run without a look at it
		twin.alike()
		given, second, _ := random(t, 5000+seed)
		image, c := one.Image(), variedCode(t, r, p)
		two := loaded(t, given, c, second, image)
		spoilProgram(given)
		spoilCode(c)
		spoilWorld(second)
		spoilImage(image)
		for range 30 {
			spoilImage(one.Image())
			spoilImage(two.Image())
			spoil(one.Events(), api.Event{Kind: 77})
			spoil(two.Events(), api.Event{Kind: 77})
			twin.run(4)
			two.Run(4)
		}
		if !same(one.Image(), two.Image()) {
			t.Fatalf("seed %d: image\n%s, want\n%s", seed, source.Text(two.Image()), source.Text(one.Image()))
		}
		all := one.Events()
		if later := two.Events(); !slices.Equal(all[len(all)-len(later):], later) {
			t.Errorf("seed %d: events %v", seed, allShown(later))
		}
	}
}

// R3: what a machine takes from its world later on is not what the world has become.
func TestMemoryOfWorlds(t *testing.T) {
	p := parsed(t, "func main; spawn 0 f; spawn 1 f; a = input; print a; b = clock; print b; yield; c = array b; print c; endfunc; func f; x = 1; endfunc")
	world := func() api.World {
		return api.World{Inputs: []api.Value{str("in")}, Clocks: []int{3}, Choices: []int{2, 1}, Fuel: []int{20, 30}, Limit: []int{40, 50}}
	}
	for _, load := range []bool{false, true} {
		w := world()
		two := begunPair(t, p, world())
		m, e := New(p, w)
		if load {
			m, e = Load(p, compiled(t, p), w, source.Begin(p, w))
		}
		if e != api.OK {
			t.Fatal(e)
		}
		spoilWorld(w)
		two.machine = m
		two.run(100)
	}
}

// R3: nothing that is passed is changed, by any function and by what a machine does.
func TestArgumentsAreKept(t *testing.T) {
	t.Parallel()
	for seed := range uint64(40) {
		p, w, r := random(t, 6000+seed)
		q, v, _ := random(t, 6000+seed)
		m := begun(t, p, w)
		m.Run(int(seed) * 5)
		image, c := m.Image(), variedCode(t, r, p)
		kept, right := source.Copy(image), cloned(c)
		two := loaded(t, p, c, w, image)
		two.Merge(0, 1)
		two.Split(0)
		two.Run(100)
		m.Run(100)
		if !reflect.DeepEqual(p, q) || !reflect.DeepEqual(w, v) || !code.Equal(c, right) || !same(image, kept) {
			t.Errorf("seed %d: the program, the world, the code or the image is changed", seed)
		}
	}
}

// R3: machines share nothing with each other.
func TestMachinesAreApart(t *testing.T) {
	p := mainOf(t, "n = 3; r = array n; "+rounds("6", "p = new P; v = p.x; p.y = v; r[one] = p; w = bind h p"))
	w := rich(1)
	w.Inputs = []api.Value{str("in")}
	c := compiled(t, p)
	alone := begun(t, p, w)
	alone.Run(1000)
	hits, misses := alone.Hits()
	start := begun(t, p, w)
	start.Run(20)
	image := start.Image()
	one, two, three := loaded(t, p, c, w, image), loaded(t, p, c, w, image), begun(t, p, w)
	rest := loaded(t, p, c, w, image)
	rest.Run(1000)
	restHits, restMisses := rest.Hits()
	for range 1000 {
		one.Step()
		two.Step()
		three.Step()
		for _, a := range []int{0, 1, 6} {
			two.Split(a)
			two.Merge(a+1, a)
		}
	}
	for _, m := range []*Machine{one, two, three} {
		if !same(m.Image(), alone.Image()) {
			t.Errorf("image\n%s, want\n%s", source.Text(m.Image()), source.Text(alone.Image()))
		}
	}
	hasHits(t, "begun", three, hits, misses)
	hasHits(t, "loaded", one, restHits, restMisses)
	hasHits(t, "not run further", start, 1, 3)
	at := place(2, 6)
	if h := alone.Heat(at); h != 6 || three.Heat(at) != 6 || one.Heat(at) != rest.Heat(at) || start.Heat(at)+rest.Heat(at) != 6 {
		t.Errorf("heat %d, %d, %d, %d, %d", h, three.Heat(at), one.Heat(at), rest.Heat(at), start.Heat(at))
	}
	splits(t, three, 0, 7)
	splits(t, one, 0, 8) // which made one of its shapes for the cell that it was loaded with
}

// R3: what a machine returns shares no memory with what it returns at another time, nor within itself.
func TestMemoryOfResults(t *testing.T) {
	p := parsed(t, "class c x y; func main; a = new c; b = new c; a.x = b; n = 5; spawn 0 f a n; spawn 0 f a n; final b g; x = call f a n; endfunc; func f a n; try; throw a; finally; yield; end; print n; endfunc; func g; endfunc")
	m := begun(t, p, rich(1))
	m.Run(11)
	want := m.Image()
	if len(want.Threads) != 3 || len(want.Cells) != 2 || len(want.Finals) != 1 || len(want.Threads[0].Frames) != 2 || len(want.Threads[0].Frames[1].Pend) != 1 {
		t.Fatalf("the image is %s", source.Text(want))
	}
	lists := func(m api.Image) []func() {
		all := []func(){
			func() { spoil(m.Fuel, 7) }, func() { spoil(m.Used, 7) }, func() { spoil(m.Finals, api.Final{}) },
			func() { spoil(m.Cells, api.Entry{}) }, func() { spoil(m.Threads, api.Thread{}) },
		}
		for _, e := range m.Cells {
			all = append(all, func() { spoil(e.Cell.Names, "spoilt") }, func() { spoil(e.Cell.Items, str("spoilt")) })
		}
		for _, th := range m.Threads {
			for _, f := range th.Frames {
				all = append(all, func() { spoil(f.Vars, str("spoilt")) }, func() { spoil(f.Pend, api.Pending{Kind: 9}) })
			}
		}
		return all
	}
	// Each list of an image is spoilt alone: it is the only one that is spoilt.
	for n := range lists(want) {
		spoilt, other := m.Image(), m.Image()
		lists(spoilt)[n]()
		if !same(other, want) || !same(m.Image(), want) {
			t.Errorf("the list number %d is shared with another image, or the machine", n)
		}
		for k, differs := range differences(spoilt, want) {
			if differs && k != n {
				t.Errorf("the list number %d is shared with the one number %d", n, k)
			}
		}
	}
	m.Run(100)
	events := m.Events()
	kept := slices.Clone(events)
	spoil(m.Events(), api.Event{Kind: 77})
	if len(kept) == 0 || !slices.Equal(events, kept) || !slices.Equal(m.Events(), kept) {
		t.Errorf("events %v, and %v", events, m.Events())
	}
}

// differences tells for the lists of two images, in the order of the test above, which of them differ.
func differences(a, b api.Image) []bool {
	all := []bool{!slices.Equal(a.Fuel, b.Fuel), !slices.Equal(a.Used, b.Used), !slices.Equal(a.Finals, b.Finals), false, false}
	for n := range min(len(a.Cells), len(b.Cells)) {
		x, y := a.Cells[n].Cell, b.Cells[n].Cell
		all = append(all, x.Kind != 0 && !slices.Equal(x.Names, y.Names), x.Kind != 0 && !slices.Equal(x.Items, y.Items))
	}
	for n := range min(len(a.Threads), len(b.Threads)) {
		for k := range min(len(a.Threads[n].Frames), len(b.Threads[n].Frames)) {
			x, y := a.Threads[n].Frames[k], b.Threads[n].Frames[k]
			all = append(all, !slices.Equal(x.Vars, y.Vars), !slices.Equal(x.Pend, y.Pend))
		}
	}
	return all
}

// R4: the same calls return the same results.
func TestSameCallsAgain(t *testing.T) {
	for seed := range uint64(10) {
		p, w, _ := random(t, 7000+seed)
		var texts [2]string
		for n := range texts {
			m := begun(t, p, w)
			for step := range 300 {
				m.Step()
				split, e := m.Split(step % 9)
				hits, misses := m.Hits()
				texts[n] += source.Text(m.Image()) + allShown(m.Events()) + string(rune('0'+split+int(e)+hits+misses+m.Heat(place(0, 10))))
			}
		}
		if texts[0] != texts[1] {
			t.Errorf("seed %d: two runs differ", seed)
		}
	}
}

// P1: functions with programs, codes, worlds and images of which nothing is right.
func TestStrangeArguments(t *testing.T) {
	p, c, w, image := running(t)
	strange := api.Code{Classes: c.Classes, Names: c.Names, Funcs: slices.Clone(c.Funcs)}
	strange.Funcs[1] = api.CodeFunc{Params: -1, Slots: 1 << 40, Ins: []api.Instr{junk(), junk(-1, 1<<62)}, Handlers: []api.Handler{{From: -1 << 63, To: 1<<63 - 1, Target: -5, Slot: -9}}}
	programs := []api.Program{p, {}, {Funcs: make([]api.Func, 2000)}, {Classes: make([]api.Class, 2000)}, {Funcs: []api.Func{{Name: "main", Lines: make([]api.Line, 3)}}}}
	codes := []api.Code{c, {}, strange, {Funcs: make([]api.CodeFunc, 3)}}
	images := []api.Image{image, {}, {Threads: make([]api.Thread, 3), Cells: make([]api.Entry, 9000), Now: -1}, {Threads: []api.Thread{{Frames: []api.Frame{{Fun: -1, Line: 1 << 62}}}}, Born: 1}}
	for n, p := range programs {
		for k, c := range codes {
			for l, w := range []api.World{w, {}, {Fuel: make([]int, 100), Limit: make([]int, 100)}} {
				for j, image := range images {
					right := n == 0 && k == 0 && l == 0 && j == 0
					if m, e := Load(p, c, w, image); (e == api.OK) != right || (m != nil) != right {
						t.Errorf("Load returns error %d", e)
					}
				}
				if m, e := New(p, w); (e == api.OK) != (n == 0 && l == 0) || (m == nil) != (e != api.OK) {
					t.Errorf("New returns error %d", e)
				}
				if _, _, e := check.Check(p); n > 0 && e == api.OK {
					t.Errorf("the program number %d is right", n)
				}
			}
		}
	}
}
