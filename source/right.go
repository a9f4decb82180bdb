package source

import (
	"slices"

	"facsimile/account"
	"facsimile/api"
	"facsimile/heap"
	"facsimile/live"
	"facsimile/value"
)

// inspection looks at an image of a program that may run in a world.
type inspection struct {
	program api.Program
	info    api.Info
	world   api.World
	image   api.Image
}

// Right reports whether i is the Info of p, and m may be an image of a machine with them.
func Right(p api.Program, i api.Info, w api.World, m api.Image) bool {
	known, e := accept(p, w)
	return e == api.OK && equalInfos(known, i) && inspection{p, i, w, m}.right()
}

func equalInfos(a, b api.Info) bool {
	return equalRows(a.Slots, b.Slots) && equalRows(a.Ends, b.Ends) && equalRows(a.Parent, b.Parent)
}

func equalRows[T comparable](a, b [][]T) bool { return slices.EqualFunc(a, b, slices.Equal[[]T]) }

// right reports whether all of the image is right. What comes later relies on what was looked at before.
func (s inspection) right() bool {
	return s.threads() && s.dead() && s.cells() && s.finals() && s.accounts()
}

// threads reports whether the threads, taken one by one, are right.
func (s inspection) threads() bool {
	threads := s.image.Threads
	if len(threads) > api.MaxThreads {
		return false
	}
	least := 0
	for _, t := range threads {
		if t.Id < least || t.Id >= s.image.Born || !s.tenant(t.Tenant) || !s.frames(t.Frames) {
			return false
		}
		least = t.Id + 1
	}
	if len(threads) == 0 {
		return s.image.Now == nobody
	}
	return slices.ContainsFunc(threads, func(t api.Thread) bool { return t.Id == s.image.Now })
}

func (s inspection) frames(frames []api.Frame) bool {
	if len(frames) < 1 || len(frames) > api.MaxFrames {
		return false
	}
	for n, f := range frames {
		top := n == len(frames)-1
		if !s.line(api.Place{Fun: f.Fun, Line: f.Line}) || !top && !s.waits(f) || !s.values(f) || !s.pending(f) {
			return false
		}
	}
	return true
}

// line reports whether this is the place of a line.
func (s inspection) line(at api.Place) bool {
	return s.function(at.Fun) && 0 <= at.Line && at.Line < len(s.program.Funcs[at.Fun].Lines)
}

// waits reports whether a frame can wait for another one at its line.
func (s inspection) waits(f api.Frame) bool {
	op := s.program.Funcs[f.Fun].Lines[f.Line].Op
	return op == api.OpCall || op == api.OpApply || op == api.OpSend
}

func (s inspection) values(f api.Frame) bool {
	return len(f.Vars) == len(s.info.Slots[f.Fun]) && allRight(valuesOf(f))
}

func (s inspection) pending(f api.Frame) bool {
	if len(f.Pend) != bodyOf(s.program, s.info, f.Fun).finals(f.Line) {
		return false
	}
	for _, d := range f.Pend {
		if d.Kind < api.PendNone || d.Kind > api.PendReturn || (d.Kind == api.PendNone) != (d.Value.Kind == api.Unset) {
			return false
		}
		if d.Kind == api.PendThrow && !s.line(d.Place) || d.Kind != api.PendThrow && d.Place != (api.Place{}) {
			return false
		}
	}
	return true
}

// dead reports whether no variable that is not live has a value.
func (s inspection) dead() bool {
	cleared := live.Clear(s.program, s.info, api.Image{Threads: s.image.Threads})
	for n, t := range s.image.Threads {
		for k, f := range t.Frames {
			if !slices.Equal(f.Vars, cleared.Threads[n].Frames[k].Vars) {
				return false
			}
		}
	}
	return true
}

// cells reports whether the cells are right, and just those that can be asked for.
func (s inspection) cells() bool {
	h, e := heap.Load(s.image.Cells, s.image.Next)
	if e != api.OK {
		return false
	}
	var values []api.Value
	for _, t := range s.image.Threads {
		for _, f := range t.Frames {
			values = append(values, valuesOf(f)...)
		}
	}
	visible := h.Visible(values)
	for _, v := range values {
		if _, found := slices.BinarySearch(visible, v.N); v.Kind == api.Ref && !found {
			return false
		}
	}
	return len(visible) == len(s.image.Cells) && !slices.ContainsFunc(s.image.Cells, s.strange)
}

// strange reports whether a cell is not one of the world and the program.
func (s inspection) strange(e api.Entry) bool {
	c := e.Cell
	return !s.tenant(c.Tenant) || c.Kind == api.Object && c.Class >= len(s.program.Classes) || c.Kind == api.Closure && !s.function(c.Fun)
}

func (s inspection) finals() bool {
	for _, f := range s.image.Finals {
		if !s.function(f.Fun) || len(s.program.Funcs[f.Fun].Params) > 0 || !s.tenant(f.Tenant) || f.Cell < 0 || f.Cell >= s.image.Next {
			return false
		}
	}
	return true
}

// accounts reports whether the numbers are right.
func (s inspection) accounts() bool {
	m, tenants := s.image, len(s.world.Fuel)
	if len(m.Fuel) != tenants || len(m.Used) != tenants || m.Steps < 0 {
		return false
	}
	for tenant, sum := range account.Sums(m.Cells, tenants) {
		if m.Fuel[tenant] < 0 || m.Used[tenant] < sum || m.Used[tenant] > api.MaxLimit {
			return false
		}
	}
	return taken(m.In, len(s.world.Inputs)) && taken(m.Clock, len(s.world.Clocks)) && taken(m.Choice, len(s.world.Choices))
}

func taken(n, all int) bool { return 0 <= n && n <= all }

// function reports whether this is the number of a function.
func (s inspection) function(n int) bool { return 0 <= n && n < len(s.program.Funcs) }

// tenant reports whether the world has this tenant.
func (s inspection) tenant(n int) bool { return 0 <= n && n < len(s.world.Fuel) }

func allRight(values []api.Value) bool {
	return !slices.ContainsFunc(values, func(v api.Value) bool { return !value.Right(v) })
}
