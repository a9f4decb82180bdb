package source

import (
	"slices"

	"facsimile/api"
)

// Faults of lines. Those that value and heap alone know are not among them.
const (
	faultUnset   = "unset"
	faultType    = "type"
	faultRange   = "range"
	faultField   = "field"
	faultBytes   = "bytes"
	faultStack   = "stack"
	faultArity   = "arity"
	faultMethod  = "method"
	faultTenant  = "tenant"
	faultThreads = "threads"
)

// execution is a line that is executed: a, b, c and args are the values of the variables that it reads.
type execution struct {
	machine *Machine
	thread  *thread
	frame   *activation
	line    api.Line
	a, b, c api.Value
	args    []api.Value
}

// operators returns how the lines with each operator are executed.
func operators() map[int]func(*execution) {
	table := map[int]func(*execution){
		api.OpConst:   (*execution).constant,
		api.OpMove:    (*execution).move,
		api.OpNot:     (*execution).unary,
		api.OpNeg:     (*execution).unary,
		api.OpNew:     (*execution).object,
		api.OpGet:     (*execution).get,
		api.OpSet:     (*execution).set,
		api.OpArray:   (*execution).array,
		api.OpAt:      (*execution).at,
		api.OpPut:     (*execution).put,
		api.OpLen:     (*execution).length,
		api.OpCall:    (*execution).call,
		api.OpBind:    (*execution).bind,
		api.OpApply:   (*execution).apply,
		api.OpSend:    (*execution).send,
		api.OpWeak:    (*execution).weak,
		api.OpDeref:   (*execution).deref,
		api.OpFinal:   (*execution).final,
		api.OpPrint:   (*execution).print,
		api.OpInput:   (*execution).input,
		api.OpClock:   (*execution).clock,
		api.OpSpawn:   (*execution).spawn,
		api.OpYield:   (*execution).complete,
		api.OpThrow:   (*execution).throw,
		api.OpReturn:  (*execution).giveBack,
		api.OpIf:      (*execution).condition,
		api.OpElse:    (*execution).complete,
		api.OpWhile:   (*execution).condition,
		api.OpTry:     (*execution).complete,
		api.OpCatch:   (*execution).complete,
		api.OpFinally: (*execution).finally,
		api.OpEnd:     (*execution).end,
	}
	for op := api.OpAdd; op <= api.OpCat; op++ {
		table[op] = (*execution).binary
	}
	return table
}

// readsA reports whether lines with this operator read their A; the others write it, or have none.
func readsA(op int) bool {
	switch op {
	case api.OpSet, api.OpPut, api.OpFinal, api.OpPrint, api.OpThrow, api.OpReturn, api.OpIf, api.OpWhile:
		return true
	}
	return false
}

// execute executes the line of a thread, which is at its top frame.
func (m *Machine) execute(t *thread) {
	x := &execution{machine: m, thread: t, frame: t.top(), line: t.top().line()}
	if !x.read() {
		x.fault(faultUnset)
		return
	}
	m.operators[x.line.Op](x)
}

// read reads the variables of the line, and returns whether all of them have values.
func (x *execution) read() bool {
	missing := false
	value := func(name string) api.Value {
		if name == "" {
			return api.Value{}
		}
		v := x.frame.variable(name)
		missing = missing || v.Kind == api.Unset
		return v
	}
	if readsA(x.line.Op) {
		x.a = value(x.line.A)
	}
	x.b, x.c = value(x.line.B), value(x.line.C)
	for _, name := range x.line.Args {
		x.args = append(x.args, value(name))
	}
	return !missing
}

// complete lets control go on after the line.
func (x *execution) complete() { x.machine.complete(x.frame) }

// fault throws a fault.
func (x *execution) fault(name string) {
	x.machine.throw(x.thread, api.Value{Kind: api.Str, S: name}, x.frame.place())
}

// finish completes the line, or throws its fault.
func (x *execution) finish(fault string) {
	if fault != "" {
		x.fault(fault)
		return
	}
	x.complete()
}

// result makes v the value of A and completes the line, or throws its fault.
func (x *execution) result(v api.Value, fault string) {
	if fault == "" {
		x.frame.assign(x.line.A, v)
	}
	x.finish(fault)
}

// cell returns the cell of this kind that v denotes, and whether it does.
func (x *execution) cell(v api.Value, kind int) (api.Cell, bool) {
	if v.Kind != api.Ref {
		return api.Cell{}, false
	}
	c, there := x.machine.heap.Cell(v.N)
	return c, there && c.Kind == kind
}

// enter begins a frame of a function.
func (x *execution) enter(fun int, args []api.Value) {
	if len(args) != x.machine.function(fun).params {
		x.fault(faultArity)
		return
	}
	if len(x.thread.frames) >= api.MaxFrames {
		x.fault(faultStack)
		return
	}
	x.thread.frames = append(x.thread.frames, x.machine.activate(fun, args))
}

func nils(n int) []api.Value { return slices.Repeat([]api.Value{{Kind: api.Nil}}, n) }
