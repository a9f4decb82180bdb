package interp

import (
	"slices"

	"facsimile/api"
	"facsimile/cache"
	"facsimile/cells"
	"facsimile/source"
)

const (
	none   = -1 // the number of no slot, no shape and no line
	nobody = -1 // Now without threads, and the thread of an epoch
)

// Machine is a run of the code of a program in a world.
type Machine struct {
	program   api.Program
	info      api.Info
	code      api.Code
	world     api.World
	functions map[int]*function // those that were looked through
	operators map[int]func(*execution)
	store     *cells.Store
	threads   []*thread // by increasing ids
	image     api.Image // without Threads, Cells and Next, which threads and store keep
	events    []api.Event
	heat      map[api.Place]int
	caches    map[site]*cache.Site
}

// newMachine returns a machine with a code that carries out the program, and a right image.
func newMachine(p api.Program, i api.Info, c api.Code, w api.World, image api.Image) *Machine {
	m := &Machine{
		program:   copyProgram(p),
		info:      i,
		code:      copyCode(c),
		world:     copyWorld(w),
		functions: map[int]*function{},
		image:     source.Copy(image),
		heat:      map[api.Place]int{},
		caches:    map[site]*cache.Site{},
	}
	m.operators = m.instructions()
	m.store, _ = cells.Load(m.code.Classes, image.Cells, image.Next)
	for _, t := range m.image.Threads {
		m.threads = append(m.threads, m.revive(t))
	}
	m.image.Threads, m.image.Cells = nil, nil
	return m
}

// revive returns a thread that goes on with the frames of one of an image.
func (m *Machine) revive(t api.Thread) *thread {
	revived := &thread{id: t.Id, tenant: t.Tenant}
	for _, f := range t.Frames {
		function := m.function(f.Fun)
		revived.frames = append(revived.frames, &activation{frame{function.homes[f.Line], function, f.Pend}, f.Vars})
	}
	return revived
}

// activate returns the frame of a function that begins with these arguments.
func (m *Machine) activate(fun int, args []api.Value) *activation {
	f := m.function(fun)
	registers := make([]api.Value, f.Slots)
	copy(registers, args)
	return &activation{frame{position: f.homes[0], function: f}, registers}
}

// function returns what is known of a function. It is found out when the function is first run, as most of a large program may never be.
func (m *Machine) function(fun int) *function {
	f, known := m.functions[fun]
	if !known {
		f = newFunction(m.program, m.info, m.code, fun)
		m.functions[fun] = f
	}
	return f
}

// running returns the thread that runs; there is one, as long as there are threads.
func (m *Machine) running() *thread {
	return m.threads[slices.IndexFunc(m.threads, func(t *thread) bool { return t.id == m.image.Now })]
}

// born returns a new thread, which runs a function.
func (m *Machine) born(tenant, fun int, args []api.Value) *thread {
	t := &thread{id: m.image.Born, tenant: tenant, frames: []*activation{m.activate(fun, args)}}
	m.image.Born++
	return t
}

// start adds a new thread, unless it ends at once.
func (m *Machine) start(t *thread) {
	m.threads = append(m.threads, t)
	m.settle(t)
}

// settle returns nil from the frames that are at their ends, and clears the others.
func (m *Machine) settle(t *thread) {
	for !t.ended() && t.top().atEnd() {
		m.giveBack(t, api.Value{Kind: api.Nil})
	}
	t.clear()
}

// remove removes a thread.
func (m *Machine) remove(t *thread) {
	m.threads = slices.DeleteFunc(m.threads, func(other *thread) bool { return other == t })
}

// choose chooses the thread that runs next.
func (m *Machine) choose() {
	if len(m.threads) == 0 {
		m.image.Now = nobody
		return
	}
	number := 0
	if choices := m.world.Choices; len(m.threads) > 1 && m.image.Choice < len(choices) {
		number = choices[m.image.Choice] % len(m.threads)
		if number < 0 {
			number += len(m.threads)
		}
		m.image.Choice++
	}
	m.image.Now = m.threads[number].id
}

// goOn lets control of a frame go on at a line of its function.
func (m *Machine) goOn(f *activation, to position) {
	// Control goes back only from the end of a while to this while.
	if line := f.function.line(to); line < f.line() {
		m.heat[api.Place{Fun: f.function.number, Line: line}]++
	}
	f.position = to
}

// values returns the values of all frames. As only live variables have values, the refs among them are live.Roots of the image.
func (m *Machine) values() []api.Value {
	var l []api.Value
	for _, t := range m.threads {
		for _, f := range t.frames {
			l = append(l, f.registers...)
			for _, pending := range f.pend {
				l = append(l, pending.Value)
			}
		}
	}
	return l
}

// event records an event of a thread.
func (m *Machine) event(kind int, t *thread, at api.Place, text string) {
	m.record(api.Event{Kind: kind, Thread: t.id, Tenant: t.tenant, Place: at, Text: text})
}

func (m *Machine) record(e api.Event) {
	if len(m.events) < api.MaxEvents {
		m.events = append(m.events, e)
	}
}
