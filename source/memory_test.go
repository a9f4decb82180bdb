package source

import (
	"reflect"
	"slices"
	"testing"

	"facsimile/api"
)

// spoil overwrites a list, and what is behind it in its memory.
func spoil[T any](list []T, with T) {
	for n := range list[:cap(list)] {
		list[:cap(list)][n] = with
	}
}

func spoilImage(m api.Image) {
	for _, t := range m.Threads {
		for _, f := range t.Frames {
			spoil(f.Vars, str("spoilt"))
			spoil(f.Pend, api.Pending{Kind: 9})
		}
		spoil(t.Frames, api.Frame{Fun: 77})
	}
	for _, e := range m.Cells {
		spoil(e.Cell.Names, "spoilt")
		spoil(e.Cell.Items, str("spoilt"))
	}
	spoil(m.Threads, api.Thread{Id: -7})
	spoil(m.Cells, api.Entry{Id: -7})
	spoil(m.Finals, api.Final{Cell: -7})
	spoil(m.Fuel, -7)
	spoil(m.Used, -7)
}

func spoilProgram(p api.Program) {
	for _, c := range p.Classes {
		spoil(c.Fields, "spoilt")
		spoil(c.Methods, api.Method{Name: "spoilt", Func: "spoilt"})
	}
	for _, f := range p.Funcs {
		for _, l := range f.Lines {
			spoil(l.Args, "spoilt")
		}
		spoil(f.Params, "spoilt")
		spoil(f.Lines, api.Line{Op: api.OpEnd})
	}
	spoil(p.Classes, api.Class{})
	spoil(p.Funcs, api.Func{})
}

func spoilWorld(w api.World) {
	spoil(w.Inputs, str("spoilt"))
	spoil(w.Clocks, 77)
	spoil(w.Choices, 77)
	spoil(w.Fuel, 77)
	spoil(w.Limit, 0)
}

// R3: a machine shares no memory with the program, the world and the image that were passed, nor with images and events that it has returned.
func TestMemoryOfMachines(t *testing.T) {
	for seed := range uint64(60) {
		text, w := random(t, 50000+seed)
		_, first := random(t, 50000+seed)
		_, second := random(t, 50000+seed)
		given := parsed(t, text)
		one, e := New(given, first)
		if e != api.OK {
			t.Fatal(e)
		}
		twin := begun(t, text, w)
		spoilProgram(given)
		spoilWorld(first)
		spoilImage(one.Image())
		one.Run(40)
		twin.Run(40)
		isImage(t, "a new machine", one.Image(), twin.Image())
		given = parsed(t, text)
		image := one.Image()
		loaded, e := Load(given, second, image)
		if e != api.OK {
			t.Fatal(e)
		}
		spoilProgram(given)
		spoilWorld(second)
		spoilImage(image)
		isImage(t, "a loaded machine", loaded.Image(), twin.Image())
		for range 30 {
			spoilImage(one.Image())
			spoilImage(loaded.Image())
			spoil(one.Events(), api.Event{Kind: 77})
			one.Run(4)
			loaded.Run(4)
			twin.Run(4)
		}
		isImage(t, "images that are spoilt", one.Image(), twin.Image())
		isImage(t, "images of a loaded machine that are spoilt", loaded.Image(), twin.Image())
		if !slices.Equal(one.Events(), twin.Events()) {
			t.Errorf("seed %d: events that are spoilt: %v, not %v", seed, allShown(one.Events()), allShown(twin.Events()))
		}
	}
}

// R3: what a machine takes from its world later on is not what the world has become.
func TestMemoryOfWorlds(t *testing.T) {
	text := written("func main", "spawn 0 f", "spawn 1 f", "a = input", "print a", "b = clock", "print b", "yield", "c = array b", "print c", "endfunc", "func f", "x = 1", "endfunc")
	want := []string{"print 0/0 0.3 in", "print 0/0 0.5 3", "end 2/1 1.1 nil", "end 1/0 1.1 nil", "print 0/0 0.8 <array 3>", "end 0/0 0.9 nil"}
	world := func() api.World {
		return api.World{Inputs: []api.Value{str("in")}, Clocks: []int{3}, Choices: []int{2, 1}, Fuel: []int{20, 30}, Limit: []int{40, 50}}
	}
	for _, load := range []bool{false, true} {
		w := world()
		m, e := New(parsed(t, text), w)
		if load {
			m, e = Load(parsed(t, text), w, Begin(parsed(t, text), w))
		}
		if e != api.OK {
			t.Fatal(e)
		}
		spoilWorld(w)
		m.Run(100)
		sameEvents(t, "a world that is spoilt", m, want...)
	}
}

// R3: nothing that is passed is changed, by any function and by what a machine does.
func TestArgumentsAreKept(t *testing.T) {
	for seed := range uint64(40) {
		text, w := random(t, 60000+seed)
		_, kept := random(t, 60000+seed)
		p := parsed(t, text)
		i := info(t, p)
		m, _ := New(p, w)
		m.Run(int(seed) * 5)
		image := m.Image()
		loaded, e := Load(p, w, image)
		if e != api.OK || !Right(p, i, w, image) {
			t.Fatalf("seed %d: error %d", seed, e)
		}
		loaded.Run(100)
		spoilImage(loaded.Image())
		m.Run(100)
		Begin(p, w)
		Text(image)
		spoilImage(Copy(image))
		twin := begun(t, text, kept)
		twin.Run(int(seed) * 5)
		isImage(t, "the image that was passed", image, twin.Image())
		if !reflect.DeepEqual(p, parsed(t, text)) || !reflect.DeepEqual(i, info(t, parsed(t, text))) || !reflect.DeepEqual(w, kept) {
			t.Errorf("seed %d: the program, its Info or the world is changed", seed)
		}
	}
}

// R3: images that are returned share no memory with each other, nor within themselves.
func TestMemoryOfImages(t *testing.T) {
	text := written("class c x y", "func main", "a = new c", "b = new c", "a.x = b", "n = 5", "spawn 0 f a n", "spawn 0 f a n", "x = call f a n", "endfunc", "func f a n", "try", "throw a", "finally", "yield", "end", "print n", "endfunc")
	w := fuelled(100, 200)
	m := begun(t, text, w)
	m.Run(10)
	p := parsed(t, text)
	read, _ := Read(Text(m.Image()))
	for what, returned := range map[string]func() api.Image{
		"Image": m.Image,
		"Begin": func() api.Image { return Begin(p, w) },
		"Copy":  func() api.Image { return Copy(read) },
		"Read":  func() api.Image { again, _ := Read(Text(read)); return again },
	} {
		first, second := returned(), returned()
		spoilImage(first)
		isImage(t, what, returned(), second)
		// Each list alone: another one that shares its memory would be spoilt, too.
		for n := range second.Cells {
			m, want := returned(), returned()
			spoil(m.Cells[n].Cell.Names, "spoilt")
			want.Cells[n].Cell.Names = m.Cells[n].Cell.Names
			spoil(m.Cells[n].Cell.Items, null)
			want.Cells[n].Cell.Items = m.Cells[n].Cell.Items
			isImage(t, what+": a cell", m, want)
		}
		for n := range second.Threads {
			m, want := returned(), returned()
			spoil(m.Threads[n].Frames[0].Vars, yes)
			want.Threads[n].Frames[0].Vars = m.Threads[n].Frames[0].Vars
			spoil(m.Threads[n].Frames[0].Pend, api.Pending{Kind: 5})
			want.Threads[n].Frames[0].Pend = m.Threads[n].Frames[0].Pend
			isImage(t, what+": a frame", m, want)
		}
		m, want := returned(), returned()
		spoil(m.Fuel, 7)
		want.Fuel = m.Fuel
		isImage(t, what+": Fuel", m, want)
	}
	if events := m.Events(); !slices.Equal(events, m.Events()) {
		t.Errorf("events %v", events)
	}
}
