package source

import (
	"slices"
	"strings"

	"facsimile/api"
	"facsimile/check"
	"facsimile/lang"
	"facsimile/value"
)

// line executes a line of the thread with this id, and returns how it ends.
func (o *model) line(id int, l api.Line) signal {
	var vars []api.Value
	names := []string{l.B, l.C}
	if l.Op != api.OpCatch && !strings.HasPrefix(lang.Line(l), l.A+" =") {
		names = append(names, l.A)
	}
	f := o.top(id)
	for _, name := range append(names, l.Args...) {
		if slot := check.Slot(o.info, f.Fun, name); slot >= 0 {
			if f.Vars[slot] == unset {
				return faultOf("unset")
			}
			vars = append(vars, f.Vars[slot])
		}
	}
	if l.Op >= api.OpCall && l.Op <= api.OpSend && l.Op != api.OpBind {
		return o.invoke(id, l, vars)
	}
	result, s := o.effect(id, l, vars)
	if s.way == goesOn && l.A != "" && strings.HasPrefix(lang.Line(l), l.A+" =") {
		o.top(id).Vars[check.Slot(o.info, f.Fun, l.A)] = result
	}
	return s
}

func (o *model) top(id int) *api.Frame {
	t := o.thread(id)
	return &t.Frames[len(t.Frames)-1]
}

// invoke puts a frame for a line with what it reads.
func (o *model) invoke(id int, l api.Line, vars []api.Value) signal {
	fun, args := check.Func(o.program, l.Name), vars
	switch l.Op {
	case api.OpApply:
		c := o.cell(vars[0], api.Closure)
		if c == nil {
			return faultOf("type")
		}
		fun, args = c.Fun, slices.Concat(c.Items, vars[1:])
	case api.OpSend:
		c := o.cell(vars[0], api.Object)
		if c == nil {
			return faultOf("type")
		}
		fun = -1
		for _, m := range o.program.Classes[c.Class].Methods {
			if m.Name == l.Name {
				fun = check.Func(o.program, m.Func)
			}
		}
		if fun < 0 {
			return faultOf("method")
		}
	}
	if len(args) != len(o.program.Funcs[fun].Params) {
		return faultOf("arity")
	}
	t := o.thread(id)
	if len(t.Frames) == 40 {
		return faultOf("stack")
	}
	t.Frames = append(t.Frames, o.frame(fun, args))
	return signal{way: stays}
}

// made makes a cell, and returns its ref.
func (o *model) made(id int, c api.Cell) (api.Value, signal) {
	c.Tenant = o.thread(id).Tenant
	if o.full(c.Tenant, 16+8*len(c.Items)) {
		return unset, faultOf("bytes")
	}
	o.image.Cells = append(o.image.Cells, api.Entry{Id: o.image.Next, Cell: c})
	o.image.Next++
	return ref(o.image.Next - 1), signal{}
}

// effect returns what a line computes from what it reads (in the order B, C, A, Args), and how it ends.
func (o *model) effect(id int, l api.Line, vars []api.Value) (api.Value, signal) {
	operand := append(slices.Clone(vars), unset)[0]
	switch l.Op {
	case api.OpConst:
		return l.Const, signal{}
	case api.OpMove:
		return operand, signal{}
	case api.OpNot, api.OpNeg:
		return either(value.Unary(l.Op, operand))
	case api.OpNew:
		n := check.Class(o.program, l.Name)
		c := api.Cell{Kind: api.Object, Class: n, Names: slices.Clone(o.program.Classes[n].Fields)}
		for range c.Names {
			c.Items = append(c.Items, null)
		}
		return o.made(id, c)
	case api.OpArray:
		if operand.Kind != api.Int {
			return unset, faultOf("type")
		}
		if operand.N < 0 || operand.N > 64 {
			return unset, faultOf("range")
		}
		return o.made(id, api.Cell{Kind: api.Array, Items: slices.Repeat([]api.Value{null}, operand.N)})
	case api.OpBind:
		return o.made(id, api.Cell{Kind: api.Closure, Fun: check.Func(o.program, l.Name), Items: vars})
	case api.OpWeak:
		if operand.Kind != api.Ref {
			return unset, faultOf("type")
		}
		return o.made(id, api.Cell{Kind: api.Weak, Items: vars})
	}
	return o.outside(id, l, vars)
}

// outside is what a line does with the world and with threads, and where control goes on.
func (o *model) outside(id int, l api.Line, vars []api.Value) (api.Value, signal) {
	m := &o.image
	operand := append(slices.Clone(vars), unset)[0]
	switch l.Op {
	case api.OpFinal:
		if operand.Kind != api.Ref {
			return unset, faultOf("type")
		}
		m.Finals = append(m.Finals, api.Final{Cell: operand.N, Fun: check.Func(o.program, l.Name), Tenant: o.thread(id).Tenant})
	case api.OpPrint:
		f := o.top(id)
		o.happens(api.Event{Kind: api.EvPrint, Thread: id, Tenant: o.thread(id).Tenant, Place: api.Place{Fun: f.Fun, Line: f.Line}, Text: o.show(operand)})
	case api.OpInput:
		if m.In == len(o.world.Inputs) {
			return null, signal{}
		}
		m.In++
		return o.world.Inputs[m.In-1], signal{}
	case api.OpClock:
		if m.Clock == len(o.world.Clocks) {
			return null, signal{}
		}
		m.Clock++
		return integer(o.world.Clocks[m.Clock-1]), signal{}
	case api.OpSpawn:
		if l.Const.N < 0 || l.Const.N >= len(o.world.Fuel) {
			return unset, faultOf("tenant")
		}
		if len(m.Threads) == 16 {
			return unset, faultOf("threads")
		}
		o.spawn(l.Const.N, check.Func(o.program, l.Name), vars)
	case api.OpThrow:
		return unset, signal{throws, operand, api.Place{Fun: -1}}
	case api.OpReturn:
		return unset, signal{way: returns, value: operand}
	case api.OpIf, api.OpWhile:
		if operand.Kind != api.Bool {
			return unset, faultOf("type")
		}
		return unset, signal{way: []int{skips, goesOn}[operand.N]}
	case api.OpFinally, api.OpEnd:
		return unset, o.boundary(id, l)
	}
	return o.items(l, vars)
}

// boundary is the beginning of a finally part, or an end of a block.
func (o *model) boundary(id int, l api.Line) signal {
	f := o.top(id)
	if l.Op == api.OpFinally {
		f.Pend = append(f.Pend, api.Pending{})
		return signal{}
	}
	if open := o.open(f.Fun, f.Line); open[len(open)-1] != api.OpFinally {
		return signal{}
	}
	last := f.Pend[len(f.Pend)-1]
	f.Pend = f.Pend[:len(f.Pend)-1]
	return signal{[]int{goesOn, throws, returns}[last.Kind], last.Value, last.Place}
}

// items is what a line does that reads or writes cells, or has two operands, or does nothing more.
func (o *model) items(l api.Line, vars []api.Value) (api.Value, signal) {
	switch l.Op {
	case api.OpGet, api.OpSet:
		c := o.cell(vars[len(vars)-1], api.Object)
		if c == nil {
			return unset, faultOf("type")
		}
		at := slices.Index(c.Names, l.Name)
		if l.Op == api.OpGet && at < 0 {
			return unset, faultOf("field")
		}
		if l.Op == api.OpGet {
			return c.Items[at], signal{}
		}
		return unset, o.set(vars[1], l.Name, vars[0])
	case api.OpLen:
		if c := o.cell(vars[0], api.Array); c != nil {
			return integer(len(c.Items)), signal{}
		}
		if vars[0].Kind == api.Str {
			return integer(len(vars[0].S)), signal{}
		}
		return unset, faultOf("type")
	case api.OpDeref:
		if c := o.cell(vars[0], api.Weak); c != nil {
			return c.Items[0], signal{}
		}
		return unset, faultOf("type")
	case api.OpAt:
		return o.element(vars[0], vars[1], unset)
	case api.OpPut:
		return o.element(vars[2], vars[0], vars[1])
	case api.OpFinal, api.OpPrint, api.OpSpawn, api.OpYield, api.OpElse, api.OpTry, api.OpCatch:
		return unset, signal{}
	}
	return either(value.Binary(l.Op, vars[0], vars[1]))
}

// set makes v a field of an object.
func (o *model) set(object api.Value, name string, v api.Value) signal {
	c := o.cell(object, api.Object)
	if at := slices.Index(c.Names, name); at >= 0 {
		c.Items[at] = v
		return signal{}
	}
	if len(c.Names) == 64 {
		return faultOf("range")
	}
	if o.full(c.Tenant, 8) {
		return faultOf("bytes")
	}
	c = o.cell(object, api.Object)
	c.Names, c.Items = append(c.Names, name), append(c.Items, v)
	return signal{}
}

// element returns the item of an array, which becomes v, unless that is unset.
func (o *model) element(array, index, v api.Value) (api.Value, signal) {
	c := o.cell(array, api.Array)
	if c == nil || index.Kind != api.Int {
		return unset, faultOf("type")
	}
	if index.N < 0 || index.N >= len(c.Items) {
		return unset, faultOf("bounds")
	}
	if v != unset {
		c.Items[index.N] = v
	}
	return c.Items[index.N], signal{}
}

func either(v api.Value, fault string) (api.Value, signal) {
	if fault != "" {
		return unset, faultOf(fault)
	}
	return v, signal{}
}
