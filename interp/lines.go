package interp

import (
	"slices"

	"facsimile/api"
	"facsimile/value"
)

func (m *Machine) constant(x *execution) { x.result(x.ins.K, "") }

func (m *Machine) move(x *execution) { x.result(x.b, "") }

func (m *Machine) unary(x *execution) { x.result(value.Unary(x.ins.Op, x.b)) }

func (m *Machine) binary(x *execution) { x.result(value.Binary(x.ins.Op, x.b, x.c)) }

func (m *Machine) pass(x *execution) { x.complete() }

func (m *Machine) jump(x *execution) { x.goTo(x.ins.A) }

func (m *Machine) branch(x *execution) {
	yes, ok := value.Truth(x.b)
	switch {
	case !ok:
		x.fault(faultType)
	case yes:
		x.complete()
	default:
		x.goTo(x.ins.A)
	}
}

// goTo lets control go on at an instruction.
func (x *execution) goTo(pc int) { x.machine.goOn(x.frame, x.frame.function.start(pc)) }

func (m *Machine) call(x *execution) { x.enter(x.ins.K.N, x.args) }

func (m *Machine) apply(x *execution) {
	c, ok := m.cell(x.b, api.Closure)
	if !ok {
		x.fault(faultType)
		return
	}
	x.enter(c.Fun, slices.Concat(c.Items, x.args))
}

func (m *Machine) final(x *execution) {
	if x.a.Kind != api.Ref {
		x.fault(faultType)
		return
	}
	m.image.Finals = append(m.image.Finals, api.Final{Cell: x.a.N, Fun: x.ins.K.N, Tenant: x.thread.tenant})
	x.complete()
}

func (m *Machine) print(x *execution) {
	m.event(api.EvPrint, x.thread, x.frame.place(), m.show(x.a))
	x.complete()
}

func (m *Machine) input(x *execution) {
	v := api.Value{Kind: api.Nil}
	if m.image.In < len(m.world.Inputs) {
		v = m.world.Inputs[m.image.In]
		m.image.In++
	}
	x.result(v, "")
}

func (m *Machine) clock(x *execution) {
	v := api.Value{Kind: api.Nil}
	if m.image.Clock < len(m.world.Clocks) {
		v = api.Value{Kind: api.Int, N: m.world.Clocks[m.image.Clock]}
		m.image.Clock++
	}
	x.result(v, "")
}

func (m *Machine) spawn(x *execution) {
	tenant := x.ins.B
	if tenant < 0 || tenant >= len(m.world.Fuel) {
		x.fault(faultTenant)
		return
	}
	if len(m.threads) >= api.MaxThreads {
		x.fault(faultThreads)
		return
	}
	m.start(m.born(tenant, x.ins.K.N, x.args))
	x.complete()
}

func (m *Machine) raise(x *execution) { m.throw(x.thread, x.a, x.frame.place()) }

func (m *Machine) leave(x *execution) { m.returnFrom(x.thread, x.a) }

func (m *Machine) enterFinally(x *execution) {
	x.frame.pend = append(x.frame.pend, api.Pending{Kind: api.PendNone})
	x.complete()
}

// leaveFinally goes on with what is pending.
func (m *Machine) leaveFinally(x *execution) {
	f := x.frame
	last := f.pend[len(f.pend)-1]
	f.pend = f.pend[:len(f.pend)-1]
	switch last.Kind {
	case api.PendThrow:
		m.throw(x.thread, last.Value, last.Place)
	case api.PendReturn:
		m.returnFrom(x.thread, last.Value)
	default:
		x.complete()
	}
}
