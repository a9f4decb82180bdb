package interp

import (
	"slices"

	"facsimile/api"
)

// each returns what a function returns for the elements of a list, in order.
func each[T any](list []T, result func(T) T) []T {
	results := slices.Clone(list)
	for n, element := range list {
		results[n] = result(element)
	}
	return results
}

// copyProgram returns a program that is equal, and shares no memory.
func copyProgram(p api.Program) api.Program {
	return api.Program{Classes: each(p.Classes, copyClass), Funcs: each(p.Funcs, copyFunc)}
}

func copyClass(c api.Class) api.Class {
	c.Fields = slices.Clone(c.Fields)
	c.Methods = slices.Clone(c.Methods)
	return c
}

func copyFunc(f api.Func) api.Func {
	f.Params = slices.Clone(f.Params)
	f.Lines = each(f.Lines, copyLine)
	return f
}

func copyLine(l api.Line) api.Line {
	l.Args = slices.Clone(l.Args)
	return l
}

// copyCode returns a code that is equal, and shares no memory.
func copyCode(c api.Code) api.Code {
	return api.Code{Classes: each(c.Classes, copyClass), Names: slices.Clone(c.Names), Funcs: each(c.Funcs, copyCodeFunc)}
}

func copyCodeFunc(f api.CodeFunc) api.CodeFunc {
	f.Ins = each(f.Ins, copyInstr)
	f.Handlers = slices.Clone(f.Handlers)
	return f
}

func copyInstr(ins api.Instr) api.Instr {
	ins.Args = slices.Clone(ins.Args)
	ins.Lines = slices.Clone(ins.Lines)
	return ins
}

// copyWorld returns a world that is equal, and shares no memory.
func copyWorld(w api.World) api.World {
	w.Inputs = slices.Clone(w.Inputs)
	w.Clocks = slices.Clone(w.Clocks)
	w.Choices = slices.Clone(w.Choices)
	w.Fuel = slices.Clone(w.Fuel)
	w.Limit = slices.Clone(w.Limit)
	return w
}
