package source

import (
	"facsimile/api"
	"facsimile/check"
)

// throw throws an exception, which came from a place, at the line of the top frame.
func (m *Machine) throw(t *thread, v api.Value, from api.Place) {
unwind:
	for !t.ended() {
		f := t.top()
		line, slot, finally, ok := check.Catch(m.program, m.info, f.place())
		switch {
		case finally:
			f.divert(line)
			f.Pend = append(f.Pend, api.Pending{Kind: api.PendThrow, Value: v, Place: from})
			break unwind
		case ok:
			f.divert(line)
			f.Vars[slot] = v
			break unwind
		}
		t.pop()
	}
	if t.ended() {
		m.event(api.EvFault, t, from, m.show(v))
		m.remove(t)
	}
}

// giveBack returns a value from the top frame, at its line or its end.
func (m *Machine) giveBack(t *thread, v api.Value) {
	f := t.top()
	if line, ok := check.Finally(m.program, m.info, f.place()); ok {
		f.divert(line)
		f.Pend = append(f.Pend, api.Pending{Kind: api.PendReturn, Value: v})
		return
	}
	t.pop()
	if t.ended() {
		m.event(api.EvEnd, t, f.end(), m.show(v))
		m.remove(t)
		return
	}
	waiting := t.top()
	waiting.assign(waiting.line().A, v)
	m.complete(waiting)
}
