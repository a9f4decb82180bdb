package interp

import "facsimile/api"

// Faults of lines. Those that value, heap and cells alone know are not among them.
const (
	faultUnset   = "unset"
	faultType    = "type"
	faultRange   = "range"
	faultField   = "field"
	faultBytes   = "bytes"
	faultStack   = "stack"
	faultArity   = "arity"
	faultMethod  = "method"
	faultTenant  = "tenant"
	faultThreads = "threads"
)

// execution is an instruction that is carried out: a, b, c and args are the values of the registers that it reads.
type execution struct {
	machine *Machine
	thread  *thread
	frame   *activation
	ins     api.Instr
	a, b, c api.Value
	args    []api.Value
}

// instructions returns how the instructions with each operator are carried out.
func (m *Machine) instructions() map[int]func(*execution) {
	table := map[int]func(*execution){
		api.OpConst:  m.constant,
		api.OpMove:   m.move,
		api.OpNot:    m.unary,
		api.OpNeg:    m.unary,
		api.OpNew:    m.object,
		api.OpGet:    m.get,
		api.OpSet:    m.set,
		api.OpArray:  m.array,
		api.OpAt:     m.at,
		api.OpPut:    m.put,
		api.OpLen:    m.length,
		api.OpCall:   m.call,
		api.OpBind:   m.bind,
		api.OpApply:  m.apply,
		api.OpSend:   m.send,
		api.OpWeak:   m.weak,
		api.OpDeref:  m.deref,
		api.OpFinal:  m.final,
		api.OpPrint:  m.print,
		api.OpInput:  m.input,
		api.OpClock:  m.clock,
		api.OpSpawn:  m.spawn,
		api.OpYield:  m.pass,
		api.OpThrow:  m.raise,
		api.OpReturn: m.leave,
		api.BNop:     m.pass,
		api.BJump:    m.jump,
		api.BFalse:   m.branch,
		api.BEnter:   m.enterFinally,
		api.BLeave:   m.leaveFinally,
	}
	for op := api.OpAdd; op <= api.OpCat; op++ {
		table[op] = m.binary
	}
	return table
}

// readsA reports whether instructions with this operator read the register A; the others write it, or have none.
func readsA(op int) bool {
	switch op {
	case api.OpSet, api.OpPut, api.OpFinal, api.OpPrint, api.OpThrow, api.OpReturn:
		return true
	}
	return false
}

// execute executes the line of a thread, which is at its top frame.
func (m *Machine) execute(t *thread) {
	f := t.top()
	x := &execution{machine: m, thread: t, frame: f, ins: f.instruction()}
	if !x.read() {
		x.fault(faultUnset)
		return
	}
	m.operators[x.ins.Op](x)
}

// read reads the registers of the instruction, and returns whether all of them have values.
func (x *execution) read() bool {
	missing := false
	value := func(register int) api.Value {
		if register == none {
			return api.Value{}
		}
		v := x.frame.registers[register]
		missing = missing || v.Kind == api.Unset
		return v
	}
	if readsA(x.ins.Op) {
		x.a = value(x.ins.A)
	}
	// B of a spawn is a tenant.
	if x.ins.Op != api.OpSpawn {
		x.b = value(x.ins.B)
	}
	x.c = value(x.ins.C)
	for _, register := range x.ins.Args {
		x.args = append(x.args, value(register))
	}
	return !missing
}

// complete lets control go on after the line.
func (x *execution) complete() { x.machine.complete(x.frame) }

// fault throws a fault.
func (x *execution) fault(name string) {
	x.machine.throw(x.thread, api.Value{Kind: api.Str, S: name}, x.frame.place())
}

// finish completes the line, or throws its fault.
func (x *execution) finish(fault string) {
	if fault != "" {
		x.fault(fault)
		return
	}
	x.complete()
}

// result makes v the value of the register A and completes the line, or throws its fault.
func (x *execution) result(v api.Value, fault string) {
	if fault == "" {
		x.frame.registers[x.ins.A] = v
	}
	x.finish(fault)
}

// enter begins a frame of a function.
func (x *execution) enter(fun int, args []api.Value) {
	if len(args) != x.machine.function(fun).Params {
		x.fault(faultArity)
		return
	}
	if len(x.thread.frames) >= api.MaxFrames {
		x.fault(faultStack)
		return
	}
	x.thread.frames = append(x.thread.frames, x.machine.activate(fun, args))
}
