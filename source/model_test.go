package source

import (
	"slices"
	"strconv"
	"strings"

	"facsimile/api"
	"facsimile/check"
	"facsimile/live"
	"facsimile/value"
)

// model is a second machine, which keeps nothing but an image, with all cells that are there: it goes through all of them whenever it looks for one.
type model struct {
	program api.Program
	info    api.Info
	world   api.World
	live    [][][]bool // before the lines of each function
	across  [][][]bool
	image   api.Image
	before  api.Image // the line that is executed
	events  []api.Event
	met     seen // what lines threw
}

// signal is how a line ends.
type signal struct {
	way   int
	value api.Value
	place api.Place
}

const (
	goesOn = iota
	skips
	stays // a frame was put on top
	throws
	returns
)

func faultOf(name string) signal {
	return signal{way: throws, value: str(name), place: api.Place{Fun: -1}}
}

func newModel(p api.Program, i api.Info, w api.World, m api.Image) *model {
	o := &model{program: p, info: i, world: w, image: Copy(m), met: seen{}}
	for fun := range p.Funcs {
		o.live = append(o.live, live.Before(p, i, fun))
		o.across = append(o.across, live.Across(p, i, fun))
	}
	return o
}

func (o *model) thread(id int) *api.Thread {
	for n := range o.image.Threads {
		if o.image.Threads[n].Id == id {
			return &o.image.Threads[n]
		}
	}
	return nil
}

func (o *model) cell(v api.Value, kind int) *api.Cell {
	for n, e := range o.image.Cells {
		if v.Kind == api.Ref && e.Id == v.N && e.Cell.Kind == kind {
			return &o.image.Cells[n].Cell
		}
	}
	return nil
}

func (o *model) happens(e api.Event) {
	if len(o.events) < 4000 {
		o.events = append(o.events, e)
	}
}

func (o *model) step() bool {
	m := &o.image
	if len(m.Threads) == 0 {
		return false
	}
	t := *o.thread(m.Now)
	top := t.Frames[len(t.Frames)-1]
	if m.Fuel[t.Tenant] == 0 {
		o.happens(api.Event{Kind: api.EvFuel, Thread: t.Id, Tenant: t.Tenant, Place: api.Place{Fun: top.Fun, Line: top.Line}})
		o.drop(t.Id)
		o.next()
		return true
	}
	o.before = Copy(*m)
	m.Fuel[t.Tenant]--
	m.Steps++
	line := o.program.Funcs[top.Fun].Lines[top.Line]
	s := o.line(t.Id, line)
	if s.way == throws && s.value.Kind == api.Str {
		o.met["fault "+s.value.S]++
	}
	o.carry(t.Id, s)
	o.end(t.Id)
	if e := o.world.Epoch; e > 0 && m.Steps%e == 0 {
		o.epoch(o.roots(*m))
	}
	if line.Op == api.OpYield || o.thread(t.Id) == nil {
		o.next()
	}
	return true
}

// end returns nil at the ends of functions, and clears the thread.
func (o *model) end(id int) {
	for t := o.thread(id); t != nil; t = o.thread(id) {
		f := t.Frames[len(t.Frames)-1]
		if f.Line < len(o.program.Funcs[f.Fun].Lines) {
			break
		}
		o.carry(id, signal{way: returns, value: null})
	}
	if t := o.thread(id); t != nil {
		for n, f := range t.Frames {
			o.clear(f, n == len(t.Frames)-1)
		}
	}
}

func (o *model) clear(f api.Frame, top bool) {
	rows := o.across[f.Fun]
	if top {
		rows = o.live[f.Fun]
	}
	for slot := range f.Vars {
		if !rows[f.Line][slot] {
			f.Vars[slot] = unset
		}
	}
}

func (o *model) drop(id int) {
	o.image.Threads = slices.DeleteFunc(o.image.Threads, func(t api.Thread) bool { return t.Id == id })
}

func (o *model) next() {
	m := &o.image
	switch n := len(m.Threads); {
	case n == 0:
		m.Now = -1
	case n == 1 || m.Choice >= len(o.world.Choices):
		m.Now = m.Threads[0].Id
	default:
		c := o.world.Choices[m.Choice]
		for c < 0 {
			c += n
		}
		m.Now = m.Threads[c%n].Id
		m.Choice++
	}
}

// carry lets control of a thread go on as a signal says.
func (o *model) carry(id int, s signal) {
	for {
		t := o.thread(id)
		f := &t.Frames[len(t.Frames)-1]
		at := api.Place{Fun: f.Fun, Line: f.Line}
		if s.place.Fun < 0 {
			s.place = at
		}
		to, slot, pending := -1, -1, api.Pending{}
		switch s.way {
		case stays:
			return
		case goesOn:
			f.Line = check.Next(o.program, o.info, at)
			return
		case skips:
			f.Line = check.Skip(o.program, o.info, at)
			return
		case throws:
			to, slot, _, _ = check.Catch(o.program, o.info, at)
			pending = api.Pending{Kind: api.PendThrow, Value: s.value, Place: s.place}
		case returns:
			to, _ = check.Finally(o.program, o.info, at)
			pending = api.Pending{Kind: api.PendReturn, Value: s.value}
		}
		if to >= 0 {
			f.Pend = slices.Clone(f.Pend[:o.within(f.Fun, to-1)])
			if slot >= 0 {
				f.Vars[slot] = s.value
			} else {
				f.Pend = append(f.Pend, pending)
			}
			f.Line = to
			return
		}
		if len(t.Frames) == 1 {
			e := api.Event{Kind: api.EvFault, Thread: t.Id, Tenant: t.Tenant, Place: s.place, Text: o.show(s.value)}
			if s.way == returns {
				e.Kind, e.Place = api.EvEnd, api.Place{Fun: f.Fun, Line: len(o.program.Funcs[f.Fun].Lines)}
			}
			o.drop(id)
			o.happens(e)
			return
		}
		t.Frames = t.Frames[:len(t.Frames)-1]
		if s.way == returns {
			f = &t.Frames[len(t.Frames)-1]
			f.Vars[check.Slot(o.info, f.Fun, o.program.Funcs[f.Fun].Lines[f.Line].A)] = s.value
			s.way = goesOn
		}
	}
}

// within returns how many finally parts are open before a line is gone through.
func (o *model) within(fun, line int) int {
	n := 0
	for _, op := range o.open(fun, line) {
		if op == api.OpFinally {
			n++
		}
	}
	return n
}

// open returns the operators of the clauses that are open before a line is gone through.
func (o *model) open(fun, line int) []int {
	var open []int
	for _, l := range o.program.Funcs[fun].Lines[:line] {
		switch l.Op {
		case api.OpIf, api.OpWhile, api.OpTry:
			open = append(open, l.Op)
		case api.OpElse, api.OpCatch, api.OpFinally:
			open[len(open)-1] = l.Op
		case api.OpEnd:
			open = open[:len(open)-1]
		}
	}
	return open
}

func (o *model) show(v api.Value) string {
	for n, kind := range []string{"object", "array", "closure", "weak"} {
		c := o.cell(v, n+1)
		if c == nil {
			continue
		}
		switch kind {
		case "object":
			return "<" + o.program.Classes[c.Class].Name + ">"
		case "array":
			return "<array " + strconv.Itoa(len(c.Items)) + ">"
		case "closure":
			return "<closure " + o.program.Funcs[c.Fun].Name + ">"
		}
		return "<weak>"
	}
	if v.Kind == api.Str {
		return v.S
	}
	return value.Text(v)
}

// roots returns the values of an image that are pending, or can still be read.
func (o *model) roots(m api.Image) []api.Value {
	var roots []api.Value
	for _, t := range m.Threads {
		for n, f := range t.Frames {
			f.Vars = slices.Clone(f.Vars)
			o.clear(f, n == len(t.Frames)-1)
			roots = append(roots, f.Vars...)
			for _, d := range f.Pend {
				roots = append(roots, d.Value)
			}
		}
	}
	return roots
}

// epoch removes what is not reached from these roots.
func (o *model) epoch(roots []api.Value) {
	m := &o.image
	reached := map[int]bool{}
	for more := roots; len(more) > 0; {
		var items []api.Value
		for _, v := range more {
			if v.Kind != api.Ref || reached[v.N] {
				continue
			}
			reached[v.N] = true
			for _, e := range m.Cells {
				if e.Id == v.N && e.Cell.Kind != api.Weak {
					items = append(items, e.Cell.Items...)
				}
			}
		}
		more = items
	}
	m.Cells = slices.DeleteFunc(m.Cells, func(e api.Entry) bool { return !reached[e.Id] })
	m.Used = make([]int, len(m.Used))
	for _, e := range m.Cells {
		if e.Cell.Kind == api.Weak && e.Cell.Items[0].Kind == api.Ref && !reached[e.Cell.Items[0].N] {
			e.Cell.Items[0] = null
		}
		m.Used[e.Cell.Tenant] += 16 + 8*len(e.Cell.Items)
	}
	for n := 0; n < len(m.Finals) && len(m.Threads) < 16; {
		f := m.Finals[n]
		if reached[f.Cell] {
			n++
			continue
		}
		m.Finals = slices.Delete(m.Finals, n, n+1)
		o.happens(api.Event{Kind: api.EvFinal, Thread: m.Born, Tenant: f.Tenant, Place: api.Place{Fun: f.Fun}})
		o.spawn(f.Tenant, f.Fun, nil)
	}
	text := ""
	for _, n := range m.Used {
		text += " " + strconv.Itoa(n)
	}
	o.happens(api.Event{Kind: api.EvEpoch, Thread: -1, Text: strings.TrimPrefix(text, " ")})
}

func (o *model) spawn(tenant, fun int, args []api.Value) {
	id := o.image.Born
	o.image.Born++
	o.image.Threads = append(o.image.Threads, api.Thread{Id: id, Tenant: tenant, Frames: []api.Frame{o.frame(fun, args)}})
	o.end(id)
}

func (o *model) frame(fun int, args []api.Value) api.Frame {
	vars := slices.Clone(args)
	for len(vars) < len(o.info.Slots[fun]) {
		vars = append(vars, unset)
	}
	return api.Frame{Fun: fun, Vars: vars}
}

// full takes bytes of a tenant, and reports whether there is no room for them.
func (o *model) full(tenant, bytes int) bool {
	m := &o.image
	if m.Used[tenant]+bytes > o.world.Limit[tenant] {
		o.epoch(o.roots(o.before))
	}
	if m.Used[tenant]+bytes > o.world.Limit[tenant] {
		return true
	}
	m.Used[tenant] += bytes
	return false
}
