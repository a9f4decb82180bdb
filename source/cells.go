package source

import (
	"facsimile/account"
	"facsimile/api"
	"facsimile/check"
	"facsimile/heap"
)

// fieldSize is how many bytes a new field takes.
const fieldSize = 8

func (x *execution) object() {
	p := x.machine.program
	class := check.Class(p, x.line.Name)
	fields := p.Classes[class].Fields
	x.create(api.Cell{Kind: api.Object, Class: class, Names: fields, Items: nils(len(fields))})
}

func (x *execution) array() {
	if x.b.Kind != api.Int {
		x.fault(faultType)
		return
	}
	if x.b.N < 0 || x.b.N > api.MaxItems {
		x.fault(faultRange)
		return
	}
	x.create(api.Cell{Kind: api.Array, Items: nils(x.b.N)})
}

func (x *execution) bind() {
	x.create(api.Cell{Kind: api.Closure, Fun: check.Func(x.machine.program, x.line.Name), Items: x.args})
}

func (x *execution) weak() {
	if x.b.Kind != api.Ref {
		x.fault(faultType)
		return
	}
	x.create(api.Cell{Kind: api.Weak, Items: []api.Value{x.b}})
}

// create makes a new cell of the thread's tenant.
func (x *execution) create(c api.Cell) {
	c.Tenant = x.thread.tenant
	if !x.machine.room(c.Tenant, heap.Size(c)) {
		x.fault(faultBytes)
		return
	}
	// There is no error as long as ids are those of right refs (P7.9).
	id, _ := x.machine.heap.Alloc(c)
	x.result(api.Value{Kind: api.Ref, N: id}, "")
}

func (x *execution) get() { x.result(x.machine.heap.Get(x.b, x.line.Name)) }

func (x *execution) at() { x.result(x.machine.heap.At(x.b, x.c)) }

func (x *execution) length() { x.result(x.machine.heap.Len(x.b)) }

func (x *execution) deref() { x.result(x.machine.heap.Deref(x.b)) }

func (x *execution) put() { x.finish(x.machine.heap.Put(x.a, x.b, x.c)) }

func (x *execution) set() {
	h := x.machine.heap
	_, fault := h.Get(x.a, x.line.Name)
	if fault == faultField {
		fault = x.grow()
	}
	if fault == "" {
		_, fault = h.Set(x.a, x.line.Name, x.b)
	}
	x.finish(fault)
}

// grow takes room for a new field of the object A, or returns a fault.
func (x *execution) grow() string {
	c, _ := x.machine.heap.Cell(x.a.N)
	if len(c.Items) >= api.MaxItems {
		return faultRange
	}
	if !x.machine.room(c.Tenant, fieldSize) {
		return faultBytes
	}
	return ""
}

// room takes bytes of a tenant, after an epoch if there is no room for them before, and returns whether there is room.
func (m *Machine) room(tenant, bytes int) bool {
	limit := m.world.Limit[tenant]
	if !account.Fits(m.image.Used[tenant], limit, bytes) {
		m.epoch()
	}
	if !account.Fits(m.image.Used[tenant], limit, bytes) {
		return false
	}
	m.image.Used[tenant] += bytes
	return true
}

// epoch removes the cells that are not reached. During a line no frame has changed yet, so that the roots are those of the image before it.
func (m *Machine) epoch() {
	m.heap.Keep(m.heap.Reach(m.values()))
	m.finalise()
	m.image.Used = account.Sums(m.heap.Entries(), len(m.world.Fuel))
	m.record(api.Event{Kind: api.EvEpoch, Thread: nobody, Text: decimals(m.image.Used)})
}

// finalise starts the finalisers of cells that are gone, as long as there may be more threads.
func (m *Machine) finalise() {
	var waiting []api.Final
	for _, f := range m.image.Finals {
		if _, there := m.heap.Cell(f.Cell); there || len(m.threads) >= api.MaxThreads {
			waiting = append(waiting, f)
			continue
		}
		t := m.born(f.Tenant, f.Fun, nil)
		m.event(api.EvFinal, t, t.top().place(), "")
		m.start(t)
	}
	m.image.Finals = waiting
}
