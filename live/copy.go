package live

import (
	"slices"

	"facsimile/api"
)

// copyImage returns an image that is equal, and shares no memory.
func copyImage(m api.Image) api.Image {
	m.Threads = copyEach(m.Threads, copyThread)
	m.Cells = copyEach(m.Cells, copyEntry)
	m.Finals = slices.Clone(m.Finals)
	m.Fuel = slices.Clone(m.Fuel)
	m.Used = slices.Clone(m.Used)
	return m
}

func copyThread(t api.Thread) api.Thread {
	t.Frames = copyEach(t.Frames, copyFrame)
	return t
}

func copyFrame(f api.Frame) api.Frame {
	f.Vars = slices.Clone(f.Vars)
	f.Pend = slices.Clone(f.Pend)
	return f
}

func copyEntry(e api.Entry) api.Entry {
	e.Cell.Names = slices.Clone(e.Cell.Names)
	e.Cell.Items = slices.Clone(e.Cell.Items)
	return e
}

// copyEach returns a list of copies of the elements of a list.
func copyEach[T any](list []T, copyOf func(T) T) []T {
	copies := slices.Clone(list)
	for n := range copies {
		copies[n] = copyOf(copies[n])
	}
	return copies
}
