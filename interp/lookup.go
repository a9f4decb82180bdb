package interp

import (
	"slices"

	"facsimile/api"
	"facsimile/cache"
	"facsimile/check"
)

// site is an instruction that is a get, a set or a send.
type site struct{ fun, pc int }

// cache returns the cache of the site that is carried out.
func (x *execution) cache() *cache.Site {
	m, at := x.machine, site{x.frame.function.number, x.frame.pc}
	known := m.caches[at]
	if known == nil {
		known = cache.New()
		m.caches[at] = known
	}
	return known
}

// field looks up the slot of the field in what v denotes. Without a look-up, or a field, there is none.
func (x *execution) field(v api.Value) (int, bool) { return x.lookUp(v, x.machine.store.Tree().Slot) }

// lookUp returns what the cache knows, or find finds, for the shape of the object that v denotes, and whether there is such a thing. There is no look-up, if v denotes no object, or one without a shape.
func (x *execution) lookUp(v api.Value, find func(shape int, name string) (int, bool)) (int, bool) {
	if v.Kind != api.Ref {
		return 0, false
	}
	shape, ok := x.machine.store.Shape(v.N)
	if !ok || shape == none {
		return 0, false
	}
	known := x.cache()
	if found, hit := known.Find(shape); hit {
		return found, true
	}
	found, has := find(shape, x.ins.K.S)
	if has {
		known.Learn(shape, found)
	}
	return found, has
}

func (m *Machine) send(x *execution) {
	fun, ok := x.lookUp(x.b, m.inherited)
	if !ok {
		// It may be an object without a shape, which was not looked up.
		c, is := m.cell(x.b, api.Object)
		if !is {
			x.fault(faultType)
			return
		}
		fun, ok = m.method(c.Class, x.ins.K.S)
	}
	if !ok {
		x.fault(faultMethod)
		return
	}
	x.enter(fun, slices.Concat([]api.Value{x.b}, x.args))
}

// inherited returns the function of a method of the objects of a shape, and whether there is one.
func (m *Machine) inherited(shape int, name string) (int, bool) {
	return m.method(m.store.Tree().Class(shape), name)
}

// method returns the function of a method of a class, and whether there is one.
func (m *Machine) method(class int, name string) (int, bool) {
	methods := m.code.Classes[class].Methods
	n := slices.IndexFunc(methods, func(method api.Method) bool { return method.Name == name })
	if n < 0 {
		return 0, false
	}
	return check.Func(m.program, methods[n].Func), true
}
