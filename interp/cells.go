package interp

import (
	"slices"
	"strconv"
	"strings"

	"facsimile/account"
	"facsimile/api"
	"facsimile/heap"
)

// fieldSize is how many bytes a new field takes.
const fieldSize = 8

func (m *Machine) object(x *execution) {
	class := x.ins.K.N
	fields := m.code.Classes[class].Fields
	x.create(api.Cell{Kind: api.Object, Class: class, Names: fields, Items: nils(len(fields))})
}

func (m *Machine) array(x *execution) {
	if x.b.Kind != api.Int {
		x.fault(faultType)
		return
	}
	if x.b.N < 0 || x.b.N > api.MaxItems {
		x.fault(faultRange)
		return
	}
	x.create(api.Cell{Kind: api.Array, Items: nils(x.b.N)})
}

func (m *Machine) bind(x *execution) {
	x.create(api.Cell{Kind: api.Closure, Fun: x.ins.K.N, Items: x.args})
}

func (m *Machine) weak(x *execution) {
	if x.b.Kind != api.Ref {
		x.fault(faultType)
		return
	}
	x.create(api.Cell{Kind: api.Weak, Items: []api.Value{x.b}})
}

// create makes a new cell of the thread's tenant.
func (x *execution) create(c api.Cell) {
	c.Tenant = x.thread.tenant
	if !x.machine.room(c.Tenant, heap.Size(c)) {
		x.fault(faultBytes)
		return
	}
	// There is no error as long as ids are those of right refs (P7.9).
	id, _ := x.machine.store.Alloc(c)
	x.result(api.Value{Kind: api.Ref, N: id}, "")
}

func (m *Machine) get(x *execution) {
	if slot, ok := x.field(x.b); ok {
		item, _ := m.store.Slot(x.b.N, slot)
		x.result(item, "")
		return
	}
	x.result(m.store.Get(x.b, x.ins.K.S))
}

func (m *Machine) set(x *execution) {
	if slot, ok := x.field(x.a); ok {
		m.store.SetSlot(x.a.N, slot, x.b)
		x.complete()
		return
	}
	name := x.ins.K.S
	_, fault := m.store.Get(x.a, name)
	if fault == faultField {
		fault = m.grow(x.a)
	}
	if fault == "" {
		_, fault = m.store.Set(x.a, name, x.b)
	}
	x.finish(fault)
}

// grow takes room for a new field of an object, or returns a fault.
func (m *Machine) grow(object api.Value) string {
	c, _ := m.store.Cell(object.N)
	if len(c.Items) >= api.MaxItems {
		return faultRange
	}
	if !m.room(c.Tenant, fieldSize) {
		return faultBytes
	}
	return ""
}

// at, length, deref and put leave it to a plain heap what cells without shapes do.
func (m *Machine) at(x *execution) {
	h, v := m.alone(x.b)
	x.result(h.At(v, x.c))
}

func (m *Machine) length(x *execution) {
	h, v := m.alone(x.b)
	x.result(h.Len(v))
}

func (m *Machine) deref(x *execution) {
	h, v := m.alone(x.b)
	x.result(h.Deref(v))
}

func (m *Machine) put(x *execution) {
	h, v := m.alone(x.a)
	fault := h.Put(v, x.b, x.c)
	if fault == "" {
		c, _ := h.Cell(v.N)
		m.store.Put(x.a.N, c)
	}
	x.finish(fault)
}

// show returns what is printed for a value.
func (m *Machine) show(v api.Value) string {
	h, v := m.alone(v)
	return h.Show(m.code.Classes, m.code.Names, v)
}

// alone returns a plain heap that has the cell alone which v denotes, if it denotes one, and the value that denotes it there.
func (m *Machine) alone(v api.Value) (*heap.Heap, api.Value) {
	h := heap.New()
	if v.Kind != api.Ref {
		return h, v
	}
	if c, there := m.store.Cell(v.N); there {
		v.N, _ = h.Alloc(c)
	}
	return h, v
}

// plain returns a plain heap with all cells.
func (m *Machine) plain() *heap.Heap {
	h, _ := heap.Load(m.store.Entries(), m.store.Next())
	return h
}

// cell returns the cell of this kind that v denotes, and whether it does.
func (m *Machine) cell(v api.Value, kind int) (api.Cell, bool) {
	if v.Kind != api.Ref {
		return api.Cell{}, false
	}
	c, there := m.store.Cell(v.N)
	return c, there && c.Kind == kind
}

// room takes bytes of a tenant, after an epoch if there is no room for them before, and returns whether there is room.
func (m *Machine) room(tenant, bytes int) bool {
	limit := m.world.Limit[tenant]
	if !account.Fits(m.image.Used[tenant], limit, bytes) {
		m.epoch()
	}
	if !account.Fits(m.image.Used[tenant], limit, bytes) {
		return false
	}
	m.image.Used[tenant] += bytes
	return true
}

// epoch removes the cells that are not reached. During a line no frame has changed yet, so that the roots are those of the image before it.
func (m *Machine) epoch() {
	m.store.Keep(m.plain().Reach(m.values()))
	m.finalise()
	m.image.Used = account.Sums(m.store.Entries(), len(m.world.Fuel))
	m.record(api.Event{Kind: api.EvEpoch, Thread: nobody, Text: decimals(m.image.Used)})
}

// finalise starts the finalisers of cells that are gone, as long as there may be more threads.
func (m *Machine) finalise() {
	var waiting []api.Final
	for _, f := range m.image.Finals {
		if _, there := m.store.Cell(f.Cell); there || len(m.threads) >= api.MaxThreads {
			waiting = append(waiting, f)
			continue
		}
		t := m.born(f.Tenant, f.Fun, nil)
		m.event(api.EvFinal, t, t.top().place(), "")
		m.start(t)
	}
	m.image.Finals = waiting
}

func nils(n int) []api.Value { return slices.Repeat([]api.Value{{Kind: api.Nil}}, n) }

// decimals returns numbers with blanks between them.
func decimals(numbers []int) string {
	var parts []string
	for _, n := range numbers {
		parts = append(parts, strconv.Itoa(n))
	}
	return strings.Join(parts, " ")
}
