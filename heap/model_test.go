package heap

import (
	"math/rand/v2"
	"slices"
	"testing"

	"facsimile/api"
	"facsimile/value"
)

// model is a second heap, which goes through all cells for each answer.
type model struct {
	cells []api.Entry
	next  int
}

// find returns the position of the cell of one of these kinds that v denotes, or -1.
func (m *model) find(v api.Value, kinds ...int) int {
	return slices.IndexFunc(m.cells, func(e api.Entry) bool {
		return v.Kind == api.Ref && e.Id == v.N && slices.Contains(kinds, e.Cell.Kind)
	})
}

// reach adds cells to those that are found until there are no more.
func (m *model) reach(roots []api.Value, through ...int) []int {
	found := map[int]bool{}
	add := func(l []api.Value) bool {
		before := len(found)
		for _, v := range l {
			if m.find(v, api.Object, api.Array, api.Closure, api.Weak) >= 0 {
				found[v.N] = true
			}
		}
		return len(found) > before
	}
	for more := add(roots); more; {
		more = false
		for _, e := range m.cells {
			if found[e.Id] && slices.Contains(through, e.Cell.Kind) && add(e.Cell.Items) {
				more = true
			}
		}
	}
	var ids []int
	for _, e := range m.cells {
		if found[e.Id] {
			ids = append(ids, e.Id)
		}
	}
	return ids
}

func (m *model) keep(ids []int) []int {
	var gone []int
	var left []api.Entry
	for _, e := range m.cells {
		if slices.Contains(ids, e.Id) {
			left = append(left, e)
		} else {
			gone = append(gone, e.Id)
		}
	}
	for _, e := range left {
		if v := e.Cell.Items; e.Cell.Kind == api.Weak && v[0].Kind == api.Ref && slices.Contains(gone, v[0].N) {
			v[0] = null
		}
	}
	m.cells = left
	return gone
}

// run does the same with a heap and its model.
type run struct {
	t *testing.T
	r *rand.Rand
	h *Heap
	m *model
}

// some returns a value, often a ref to one of the newest cells.
func (u run) some() api.Value {
	if u.r.IntN(3) > 0 {
		return ref(u.m.next - u.r.IntN(14))
	}
	l := []api.Value{null, yes, integer(u.r.IntN(5) - 1), str("s"), function(0), unset}
	return l[u.r.IntN(len(l))]
}

func (u run) several(most int) []api.Value {
	var l []api.Value
	for range u.r.IntN(most + 1) {
		l = append(l, u.some())
	}
	return l
}

// fails checks that two faults are equal; of several that are true, the first counts.
func (u run) fails(what, got string, want ...string) bool {
	u.t.Helper()
	first := ""
	for _, f := range want {
		if first == "" {
			first = f
		}
	}
	if got != first {
		u.t.Fatalf("%s: %q, want %q", what, got, first)
	}
	return first != ""
}

// when returns the fault, if it is one.
func when(is bool, fault string) string {
	if is {
		return fault
	}
	return ""
}

func (u run) alloc() {
	cells := []api.Cell{array(u.several(4)...), object(u.r.IntN(2), u.several(3)...), closure(0, u.several(3)...), weak(u.some())}
	c := cells[u.r.IntN(4)]
	id, e := u.h.Alloc(c)
	wrong := slices.ContainsFunc(c.Items, func(v api.Value) bool { return v == unset || v.Kind == api.Ref && v.N < 0 })
	wrong = wrong || c.Kind == api.Weak && c.Items[0].Kind != api.Nil && c.Items[0].Kind != api.Ref
	if wrong {
		if id != 0 || e != api.ErrArg {
			u.t.Fatalf("Alloc(%s) = %d, %d", brief(c), id, e)
		}
		return
	}
	if id != u.m.next || e != api.OK {
		u.t.Fatalf("Alloc(%s) = %d, %d, want %d", brief(c), id, e, u.m.next)
	}
	u.m.cells = append(u.m.cells, api.Entry{Id: id, Cell: duplicate(c)})
	u.m.next++
}

func (u run) getAndSet() {
	v, x, name := u.some(), u.some(), fields(6)[u.r.IntN(6)]
	at := u.m.find(v, api.Object)
	got, fault := u.h.Get(v, name)
	field := -1
	if at >= 0 {
		field = slices.Index(u.m.cells[at].Cell.Names, name)
	}
	if !u.fails("Get", fault, when(v == unset, "unset"), when(at < 0, "type"), when(field < 0, "field")) && got != u.m.cells[at].Cell.Items[field] {
		u.t.Fatalf("Get = %s", value.Text(got))
	}
	added, fault := u.h.Set(v, name, x)
	if u.fails("Set", fault, when(v == unset || x == unset, "unset"), when(at < 0, "type")) {
		return
	}
	if added != (field < 0) {
		u.t.Fatalf("Set = %t", added)
	}
	c := &u.m.cells[at].Cell
	if field < 0 {
		c.Names, c.Items = append(c.Names, name), append(c.Items, x)
	} else {
		c.Items[field] = x
	}
}

func (u run) atAndPut() {
	v, index, x := u.some(), u.some(), u.some()
	if u.r.IntN(2) == 0 {
		index = integer(u.r.IntN(6) - 1)
	}
	at := u.m.find(v, api.Array)
	size := 0
	if at >= 0 {
		size = len(u.m.cells[at].Cell.Items)
	}
	faults := []string{when(v == unset || index == unset, "unset"), when(at < 0 || index.Kind != api.Int, "type"), when(index.N < 0 || index.N >= size, "bounds")}
	got, fault := u.h.At(v, index)
	if !u.fails("At", fault, faults...) && got != u.m.cells[at].Cell.Items[index.N] {
		u.t.Fatalf("At = %s", value.Text(got))
	}
	if fault := u.h.Put(v, index, x); !u.fails("Put", fault, append([]string{when(x == unset, "unset")}, faults...)...) {
		u.m.cells[at].Cell.Items[index.N] = x
	}
}

func (u run) lenAndDeref() {
	v := u.some()
	at := u.m.find(v, api.Array)
	got, fault := u.h.Len(v)
	if !u.fails("Len", fault, when(v == unset, "unset"), when(at < 0 && v != str("s"), "type")) {
		if want := v == str("s") && got == integer(1) || at >= 0 && got == integer(len(u.m.cells[at].Cell.Items)); !want {
			u.t.Fatalf("Len = %s", value.Text(got))
		}
	}
	at = u.m.find(v, api.Weak)
	got, fault = u.h.Deref(v)
	if !u.fails("Deref", fault, when(v == unset, "unset"), when(at < 0, "type")) && got != u.m.cells[at].Cell.Items[0] {
		u.t.Fatalf("Deref = %s", value.Text(got))
	}
}

// P4.5, P4.8: what more roots reach contains what fewer ones reach.
func (u run) reach() {
	roots := u.several(6)
	reach, visible := u.h.Reach(roots), u.h.Visible(roots)
	if want := u.m.reach(roots, api.Object, api.Array, api.Closure); !slices.Equal(reach, want) {
		u.t.Fatalf("Reach = %v, want %v", reach, want)
	}
	if want := u.m.reach(roots, api.Object, api.Array, api.Closure, api.Weak); !slices.Equal(visible, want) {
		u.t.Fatalf("Visible = %v, want %v", visible, want)
	}
	more := u.h.Reach(append(u.several(3), roots...))
	moreVisible := u.h.Visible(append(u.several(3), roots...))
	for _, id := range reach {
		if !slices.Contains(more, id) || !slices.Contains(visible, id) {
			u.t.Fatalf("%d is not reached from more roots, or not visible", id)
		}
	}
	for _, id := range visible {
		if !slices.Contains(moreVisible, id) {
			u.t.Fatalf("%d is not visible from more roots", id)
		}
	}
}

// P4.6, P4.8: what is reached stays, and does not denote what is removed.
func (u run) collect() {
	roots := u.several(8)
	ids := u.h.Reach(roots)
	if got, want := u.h.Keep(ids), u.m.keep(ids); !slices.Equal(got, want) {
		u.t.Fatalf("Keep = %v, want %v", got, want)
	}
	if again := u.h.Reach(roots); !slices.Equal(again, ids) {
		u.t.Fatalf("Reach = %v, want %v", again, ids)
	}
	if got := u.h.Keep(ids); len(got) > 0 {
		u.t.Fatalf("Keep = %v the second time", got)
	}
}

func (u run) keepSome() {
	var ids []int
	for _, e := range u.m.cells {
		if u.r.IntN(4) > 0 {
			ids = append(ids, e.Id, e.Id)
		}
	}
	u.r.Shuffle(len(ids), func(a, b int) { ids[a], ids[b] = ids[b], ids[a] })
	if got, want := u.h.Keep(ids), u.m.keep(ids); !slices.Equal(got, want) {
		u.t.Fatalf("Keep = %v, want %v", got, want)
	}
}

// P4.1 to P4.8: any calls, in any order, against the model.
func TestAgainstModel(t *testing.T) {
	r := rand.New(rand.NewPCG(4, 5))
	for range 300 {
		u := run{t, r, New(), &model{}}
		for range 120 {
			steps := []func(){u.alloc, u.alloc, u.alloc, u.getAndSet, u.getAndSet, u.atAndPut, u.atAndPut, u.lenAndDeref, u.reach}
			if r.IntN(30) == 0 {
				steps = []func(){u.collect, u.keepSome}
			}
			steps[r.IntN(len(steps))]()
			has(t, u.h, u.m.cells, u.m.next)
		}
	}
}

// P4.8: no id is given twice, whatever is removed.
func TestIdsAreGivenOnce(t *testing.T) {
	h := New()
	for want := range 30000 {
		id, e := h.Alloc(array(ref(want)))
		if id != want || e != api.OK {
			t.Fatalf("Alloc = %d, %d, want %d", id, e, want)
		}
		if want%1000 == 999 {
			h.Keep(list(want))
		}
	}
}

// P4.8: after Keep of what is reached, no item denotes a removed cell; a heap that was closed can be loaded again.
func TestKeepOfWhatIsReached(t *testing.T) {
	r := rand.New(rand.NewPCG(6, 7))
	for range 300 {
		count := 1 + r.IntN(30)
		var cells []api.Cell
		for range count {
			l := []api.Cell{array(ref(r.IntN(count)), ref(r.IntN(count))), object(0, null, ref(r.IntN(count))), closure(0), weak(ref(r.IntN(count)))}
			cells = append(cells, l[r.IntN(4)])
		}
		h := loaded(t, numbered(cells...), count)
		roots := refs(r.IntN(count), r.IntN(count))
		reached := h.Reach(roots)
		h.Keep(reached)
		again := loaded(t, h.Entries(), h.Next())
		has(t, again, h.Entries(), count)
		if got := again.Reach(roots); !slices.Equal(got, reached) || len(again.Keep(got)) > 0 {
			t.Errorf("Reach = %v, want %v", got, reached)
		}
	}
}
