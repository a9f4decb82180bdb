package source

import (
	"slices"

	"facsimile/api"
	"facsimile/check"
	"facsimile/value"
)

func (x *execution) constant() { x.result(x.line.Const, "") }

func (x *execution) move() { x.result(x.b, "") }

func (x *execution) unary() { x.result(value.Unary(x.line.Op, x.b)) }

func (x *execution) binary() { x.result(value.Binary(x.line.Op, x.b, x.c)) }

func (x *execution) call() { x.enter(check.Func(x.machine.program, x.line.Name), x.args) }

func (x *execution) apply() {
	c, ok := x.cell(x.b, api.Closure)
	if !ok {
		x.fault(faultType)
		return
	}
	x.enter(c.Fun, slices.Concat(c.Items, x.args))
}

func (x *execution) send() {
	c, ok := x.cell(x.b, api.Object)
	if !ok {
		x.fault(faultType)
		return
	}
	p := x.machine.program
	methods := p.Classes[c.Class].Methods
	n := slices.IndexFunc(methods, func(m api.Method) bool { return m.Name == x.line.Name })
	if n < 0 {
		x.fault(faultMethod)
		return
	}
	x.enter(check.Func(p, methods[n].Func), slices.Concat([]api.Value{x.b}, x.args))
}

func (x *execution) final() {
	if x.a.Kind != api.Ref {
		x.fault(faultType)
		return
	}
	m := x.machine
	m.image.Finals = append(m.image.Finals, api.Final{Cell: x.a.N, Fun: check.Func(m.program, x.line.Name), Tenant: x.thread.tenant})
	x.complete()
}

func (x *execution) print() {
	x.machine.event(api.EvPrint, x.thread, x.frame.place(), x.machine.show(x.a))
	x.complete()
}

func (x *execution) input() {
	v := api.Value{Kind: api.Nil}
	if m := x.machine; m.image.In < len(m.world.Inputs) {
		v = m.world.Inputs[m.image.In]
		m.image.In++
	}
	x.result(v, "")
}

func (x *execution) clock() {
	v := api.Value{Kind: api.Nil}
	if m := x.machine; m.image.Clock < len(m.world.Clocks) {
		v = api.Value{Kind: api.Int, N: m.world.Clocks[m.image.Clock]}
		m.image.Clock++
	}
	x.result(v, "")
}

func (x *execution) spawn() {
	m, tenant := x.machine, x.line.Const.N
	if tenant < 0 || tenant >= len(m.world.Fuel) {
		x.fault(faultTenant)
		return
	}
	if len(m.threads) >= api.MaxThreads {
		x.fault(faultThreads)
		return
	}
	m.start(m.born(tenant, check.Func(m.program, x.line.Name), x.args))
	x.complete()
}

func (x *execution) throw() { x.machine.throw(x.thread, x.a, x.frame.place()) }

func (x *execution) giveBack() { x.machine.giveBack(x.thread, x.a) }

func (x *execution) condition() {
	yes, ok := value.Truth(x.a)
	if !ok {
		x.fault(faultType)
		return
	}
	if !yes {
		m := x.machine
		x.frame.Line = check.Skip(m.program, m.info, x.frame.place())
		return
	}
	x.complete()
}

func (x *execution) finally() {
	x.frame.Pend = append(x.frame.Pend, api.Pending{Kind: api.PendNone})
	x.complete()
}

// end goes on with what is pending, if a finally part ends here.
func (x *execution) end() {
	f := x.frame
	if !f.function.closes(f.Line) {
		x.complete()
		return
	}
	last := f.Pend[len(f.Pend)-1]
	f.Pend = f.Pend[:len(f.Pend)-1]
	switch last.Kind {
	case api.PendThrow:
		x.machine.throw(x.thread, last.Value, last.Place)
	case api.PendReturn:
		x.machine.giveBack(x.thread, last.Value)
	default:
		x.complete()
	}
}
