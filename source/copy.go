package source

import (
	"slices"

	"facsimile/api"
)

// Copy returns an image that is equal, and shares no memory.
func Copy(m api.Image) api.Image {
	m.Threads = slices.Clone(m.Threads)
	for n, t := range m.Threads {
		m.Threads[n].Frames = slices.Clone(t.Frames)
		for k, f := range t.Frames {
			m.Threads[n].Frames[k] = copyFrame(f)
		}
	}
	m.Cells = slices.Clone(m.Cells)
	for n, e := range m.Cells {
		m.Cells[n].Cell.Names = slices.Clone(e.Cell.Names)
		m.Cells[n].Cell.Items = slices.Clone(e.Cell.Items)
	}
	m.Finals = slices.Clone(m.Finals)
	m.Fuel = slices.Clone(m.Fuel)
	m.Used = slices.Clone(m.Used)
	return m
}

func copyFrame(f api.Frame) api.Frame {
	f.Vars = slices.Clone(f.Vars)
	f.Pend = slices.Clone(f.Pend)
	return f
}

// copyProgram returns a program that is equal, and shares no memory.
func copyProgram(p api.Program) api.Program {
	p.Classes = slices.Clone(p.Classes)
	for n, c := range p.Classes {
		p.Classes[n].Fields = slices.Clone(c.Fields)
		p.Classes[n].Methods = slices.Clone(c.Methods)
	}
	p.Funcs = slices.Clone(p.Funcs)
	for n, f := range p.Funcs {
		p.Funcs[n].Params = slices.Clone(f.Params)
		p.Funcs[n].Lines = slices.Clone(f.Lines)
		for k, l := range f.Lines {
			p.Funcs[n].Lines[k].Args = slices.Clone(l.Args)
		}
	}
	return p
}

// copyWorld returns a world that is equal, and shares no memory.
func copyWorld(w api.World) api.World {
	w.Inputs = slices.Clone(w.Inputs)
	w.Clocks = slices.Clone(w.Clocks)
	w.Choices = slices.Clone(w.Choices)
	w.Fuel = slices.Clone(w.Fuel)
	w.Limit = slices.Clone(w.Limit)
	return w
}
