package source

import (
	"slices"

	"facsimile/api"
	"facsimile/check"
	"facsimile/heap"
)

const (
	mainName = "main"
	nobody   = -1 // Now without threads, and the thread of an epoch
)

// Machine is a run of a program in a world.
type Machine struct {
	program   api.Program
	info      api.Info
	world     api.World
	names     []string          // of the functions
	functions map[int]*function // those that were looked through
	operators map[int]func(*execution)
	heap      *heap.Heap
	threads   []*thread // by increasing ids
	image     api.Image // without Threads, Cells and Next, which threads and heap keep
	events    []api.Event
}

// newMachine returns a machine with a right image.
func newMachine(p api.Program, i api.Info, w api.World, image api.Image) *Machine {
	m := &Machine{program: copyProgram(p), info: i, world: copyWorld(w), functions: map[int]*function{}, operators: operators()}
	for _, f := range p.Funcs {
		m.names = append(m.names, f.Name)
	}
	m.heap, _ = heap.Load(image.Cells, image.Next)
	m.image = Copy(image)
	for _, t := range m.image.Threads {
		m.threads = append(m.threads, m.revive(t))
	}
	m.image.Threads, m.image.Cells = nil, nil
	return m
}

// revive returns a thread that goes on with the frames of one of an image.
func (m *Machine) revive(t api.Thread) *thread {
	revived := &thread{id: t.Id, tenant: t.Tenant}
	for _, f := range t.Frames {
		revived.frames = append(revived.frames, &activation{f, m.function(f.Fun)})
	}
	return revived
}

// activate returns the frame of a function that begins with these arguments.
func (m *Machine) activate(fun int, args []api.Value) *activation {
	f := m.function(fun)
	vars := make([]api.Value, len(f.slots))
	copy(vars, args)
	return &activation{api.Frame{Fun: fun, Vars: vars}, f}
}

// function returns what is known of a function. It is found out when the function is first run, as most of a large program may never be.
func (m *Machine) function(fun int) *function {
	f, known := m.functions[fun]
	if !known {
		f = newFunction(m.program, m.info, fun)
		m.functions[fun] = f
	}
	return f
}

// running returns the thread that runs; there is one, as long as there are threads.
func (m *Machine) running() *thread {
	return m.threads[slices.IndexFunc(m.threads, func(t *thread) bool { return t.id == m.image.Now })]
}

// born returns a new thread, which runs a function.
func (m *Machine) born(tenant, fun int, args []api.Value) *thread {
	t := &thread{id: m.image.Born, tenant: tenant, frames: []*activation{m.activate(fun, args)}}
	m.image.Born++
	return t
}

// start adds a new thread, unless it ends at once.
func (m *Machine) start(t *thread) {
	m.threads = append(m.threads, t)
	m.settle(t)
}

// remove removes a thread.
func (m *Machine) remove(t *thread) {
	m.threads = slices.DeleteFunc(m.threads, func(other *thread) bool { return other == t })
}

// choose chooses the thread that runs next.
func (m *Machine) choose() {
	if len(m.threads) == 0 {
		m.image.Now = nobody
		return
	}
	number := 0
	if choices := m.world.Choices; len(m.threads) > 1 && m.image.Choice < len(choices) {
		number = choices[m.image.Choice] % len(m.threads)
		if number < 0 {
			number += len(m.threads)
		}
		m.image.Choice++
	}
	m.image.Now = m.threads[number].id
}

// complete lets control go on after the line of a frame.
func (m *Machine) complete(f *activation) { f.Line = check.Next(m.program, m.info, f.place()) }

// settle returns nil from the frames that are at their ends, and clears the others.
func (m *Machine) settle(t *thread) {
	for !t.ended() && t.top().atEnd() {
		m.giveBack(t, api.Value{Kind: api.Nil})
	}
	t.clear()
}

// values returns the values of all frames. As only live variables have values, the refs among them are live.Roots of the image.
func (m *Machine) values() []api.Value {
	var l []api.Value
	for _, t := range m.threads {
		for _, f := range t.frames {
			l = append(l, valuesOf(f.Frame)...)
		}
	}
	return l
}

// show returns what is printed for a value.
func (m *Machine) show(v api.Value) string { return m.heap.Show(m.program.Classes, m.names, v) }

// event records an event of a thread.
func (m *Machine) event(kind int, t *thread, at api.Place, text string) {
	m.record(api.Event{Kind: kind, Thread: t.id, Tenant: t.tenant, Place: at, Text: text})
}

func (m *Machine) record(e api.Event) {
	if len(m.events) < api.MaxEvents {
		m.events = append(m.events, e)
	}
}
