package interp

import (
	"facsimile/api"
	"facsimile/code"
)

// complete lets control of a frame go on after its line.
func (m *Machine) complete(f *activation) { m.goOn(f, f.function.after(f.position)) }

// throw throws an exception, which came from a place, at the line of the top frame.
func (m *Machine) throw(t *thread, v api.Value, from api.Place) {
	for ; !t.ended(); t.pop() {
		f := t.top()
		h, ok := code.Catch(m.code, f.function.number, f.pc, false)
		if !ok {
			continue
		}
		f.divert(h)
		if h.Finally {
			f.pend = append(f.pend, api.Pending{Kind: api.PendThrow, Value: v, Place: from})
		} else {
			f.registers[h.Slot] = v
		}
		return
	}
	m.event(api.EvFault, t, from, m.show(v))
	m.remove(t)
}

// returnFrom returns a value from the line of the top frame.
func (m *Machine) returnFrom(t *thread, v api.Value) {
	f := t.top()
	h, ok := code.Catch(m.code, f.function.number, f.pc, true)
	if !ok {
		m.giveBack(t, v)
		return
	}
	f.divert(h)
	f.pend = append(f.pend, api.Pending{Kind: api.PendReturn, Value: v})
}

// giveBack removes the top frame, and gives a value to the one below, or ends the thread with it.
func (m *Machine) giveBack(t *thread, v api.Value) {
	end := t.top().end()
	t.pop()
	if t.ended() {
		m.event(api.EvEnd, t, end, m.show(v))
		m.remove(t)
		return
	}
	waiting := t.top()
	waiting.registers[waiting.instruction().A] = v
	m.complete(waiting)
}
