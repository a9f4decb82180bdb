package source

import (
	"slices"
	"strconv"
	"testing"

	"facsimile/api"
)

// limited returns a rich world with these limits.
func limited(limits ...int) api.World {
	w := rich(len(limits))
	w.Limit = limits
	return w
}

// P7.4: room that is just enough, and one byte less, for each line that needs room; there is nothing that an epoch at once could remove.
func TestRoom(t *testing.T) {
	for _, c := range []struct {
		lines []string
		bytes int
	}{
		{[]string{"a = new d", "print a"}, 16},
		{[]string{"a = new c", "print a"}, 32},
		{[]string{"n = 0", "a = array n", "print a"}, 16},
		{[]string{"n = 64", "a = array n", "print a"}, 528},
		{[]string{"a = bind f0", "print a"}, 16},
		{[]string{"n = 64", "a = bind f2 n n", "print a"}, 32},
		{[]string{"a = new d", "b = weak a", "print a", "print b"}, 40},
		{[]string{"a = new d", "a.x = a", "print a"}, 24},
		{[]string{"a = new d", "b = new c", "c = weak b", "b.z = c", "print a", "print b"}, 80},
	} {
		at := slices.IndexFunc(c.lines, func(l string) bool { return l[:5] == "print" }) - 1
		for limit := c.bytes - 1; limit <= c.bytes+1; limit++ {
			m := begun(t, with(c.lines...), limited(limit))
			m.Run(at + 1)
			events := allShown(m.Events())
			if limit >= c.bytes {
				if used := m.Image().Used; len(events) > 0 || !slices.Equal(used, []int{c.bytes}) {
					t.Errorf("%q with the limit %d: events %q, used %v", c.lines, limit, events, used)
				}
				continue
			}
			if len(events) != 2 || events[1] != "fault 0/0 5."+strconv.Itoa(at)+" bytes" {
				t.Errorf("%q with the limit %d: events %q", c.lines, limit, events)
			}
		}
	}
}

// P7.4: room that there is after an epoch at once, just enough, and one byte less.
func TestRoomAfterEpoch(t *testing.T) {
	for _, c := range []struct {
		what  string
		limit int
		lines []string
		want  []string
	}{
		{"enough without an epoch", 64, []string{"a = new c", "a = new c"}, []string{"end 0/0 5.2 nil"}},
		{"enough after one", 63, []string{"a = new c", "a = new c"}, []string{"epoch -1/0 0.0 0", "end 0/0 5.2 nil"}},
		{"just enough after one", 32, []string{"a = new c", "a = new c"}, []string{"epoch -1/0 0.0 0", "end 0/0 5.2 nil"}},
		{"not enough after one", 31, []string{"a = new d", "a = new c"}, []string{"epoch -1/0 0.0 0", "fault 0/0 5.1 bytes"}},
		{"what is read later stays", 63, []string{"a = new c", "b = new c", "print a"}, []string{"epoch -1/0 0.0 32", "fault 0/0 5.1 bytes"}},
		{"some of it stays", 80, []string{"a = new c", "b = new c", "b = new d", "b = new c", "print a"}, []string{"epoch -1/0 0.0 32", "print 0/0 5.4 <c>", "end 0/0 5.5 nil"}},
		{"an array", 88, []string{"n = 9", "a = array n", "a = array n", "print a"}, []string{"epoch -1/0 0.0 0", "print 0/0 5.3 <array 9>", "end 0/0 5.4 nil"}},
		{"a field", 40, []string{"b = new d", "a = new d", "b = 5", "a.x = b", "a.y = b", "print a"}, []string{"epoch -1/0 0.0 24", "print 0/0 5.5 <d>", "end 0/0 5.6 nil"}},
		{"a closure", 40, []string{"b = new d", "a = new d", "a = bind f1 a", "print a"}, []string{"epoch -1/0 0.0 16", "print 0/0 5.3 <closure f1>", "end 0/0 5.4 nil"}},
		{"a weak cell", 40, []string{"b = new d", "a = new d", "b = weak a", "print b", "print a"}, []string{"epoch -1/0 0.0 16", "print 0/0 5.3 <weak>", "print 0/0 5.4 <d>", "end 0/0 5.5 nil"}},
	} {
		happens(t, c.what, with(c.lines...), limited(c.limit), c.want...)
	}
}

// P7.6: the roots of an epoch during a line are those before it: what the line reads stays, though nobody reads it afterwards; what it writes, and nobody reads, does not.
func TestRootsBeforeTheLine(t *testing.T) {
	happens(t, "read by the line", with("a = new c", "a = bind f1 a", "print a"), limited(55), "epoch -1/0 0.0 32", "fault 0/0 5.1 bytes")
	happens(t, "read by the line, with room", with("a = new c", "a = bind f1 a", "b = apply a", "print b"), limited(56), "print 0/0 1.0 <c>", "print 0/0 5.3 <c>", "end 0/0 5.4 nil")
	happens(t, "the target of a new weak cell", with("n = 0", "b = array n", "a = new d", "a = weak a", "b = deref a", "print b", "yield", "b = deref a", "print b"), limited(40), "epoch -1/0 0.0 16", "print 0/0 5.5 <d>", "print 0/0 5.8 <d>", "end 0/0 5.9 nil")
	happens(t, "written by the line", with("a = new c", "a = new c", "print a"), limited(32), "epoch -1/0 0.0 0", "print 0/0 5.2 <c>", "end 0/0 5.3 nil")
	// If the line throws, its A is read: so what A had stays.
	happens(t, "read if the line throws", with("a = new c", "try", "a = new c", "catch e", "print a", "end"), limited(32), "epoch -1/0 0.0 32", "print 0/0 5.4 <c>", "end 0/0 5.6 nil")
}

// P7.4: an epoch at once is not taken back when the line has a fault after all: cells are gone, and finalisers have started.
func TestEpochIsNotTakenBack(t *testing.T) {
	text := with("a = new c", "final a f0", "w = weak a", "a = 9", "try", "b = array a", "catch e", "print e", "a = deref w", "print a", "end", "yield")
	happens(t, "bytes", text, limited(80),
		"final 1/0 0.0", "epoch -1/0 0.0 24", "print 0/0 5.7 bytes", "print 0/0 5.9 nil", "end 0/0 5.12 nil", "print 1/0 0.1 f0", "end 1/0 0.2 nil")
}

// P7.4: there is room of each tenant apart; an epoch counts the bytes of all of them.
func TestRoomOfTenants(t *testing.T) {
	text := written("class c x y", "func main", "a = new c", "spawn 1 f a", "b = new c", "yield", "a = new c", "endfunc", "func f a", "a = new c", "a = new c", "print a", "endfunc")
	w := limited(64, 32)
	w.Choices = []int{1}
	m := happens(t, "two tenants", text, w, "epoch -1/0 0.0 0 0", "print 1/1 1.2 <c>", "end 1/1 1.3 nil", "end 0/0 0.5 nil")
	if used := m.Image().Used; !slices.Equal(used, []int{32, 32}) {
		t.Errorf("used %v", used)
	}
}

// P7.4: what is used already may be more than the limit, with an image that is loaded.
func TestRoomOfLoaded(t *testing.T) {
	m := api.Image{Threads: []api.Thread{{Frames: []api.Frame{{Fun: 5, Vars: []api.Value{unset}}}}}, Born: 1, Fuel: []int{9}, Used: []int{api.MaxLimit}}
	l := loaded(t, with("a = new d"), limited(16), m)
	l.Run(2)
	sameEvents(t, "loaded", l, "epoch -1/0 0.0 0", "end 0/0 5.1 nil")
	m.Used = []int{16}
	l = loaded(t, with("a = new d"), limited(15), m)
	l.Run(2)
	sameEvents(t, "loaded", l, "epoch -1/0 0.0 0", "fault 0/0 5.0 bytes")
}

// kept returns which cells an epoch leaves that comes after these steps of a program.
func kept(t *testing.T, text string, steps int) ([]int, *Machine) {
	t.Helper()
	w := rich(1)
	w.Epoch = steps
	m := begun(t, text, w)
	m.Run(steps)
	var ids []int
	for _, e := range m.heap.Entries() {
		ids = append(ids, e.Id)
	}
	return ids, m
}

// P7.6: an epoch keeps what is reached from live variables and pending values of all frames and threads.
func TestWhatIsReached(t *testing.T) {
	for _, c := range []struct {
		what  string
		text  string
		steps int
		want  []int
	}{
		{"live variables", with("a = new c", "b = new c", "d = new c", "yield", "print b"), 4, []int{1}},
		{"nothing is live", with("a = new c", "b = new c", "yield", "a = 1"), 3, nil},
		{"fields", with("a = new c", "b = new c", "a.x = b", "b = new d", "a.z = b", "b = new d", "yield", "print a"), 7, []int{0, 1, 2}},
		{"items", with("n = 3", "a = array n", "b = new d", "n = 1", "a[n] = b", "yield", "print a"), 6, []int{0, 1}},
		{"items of closures", with("b = new d", "a = bind f1 b", "yield", "print a"), 3, []int{0, 1}},
		{"cells that contain themselves, and each other", with("a = new c", "b = new c", "a.x = b", "b.x = a", "b.y = b", "d = new d", "yield", "print d"), 7, []int{2}},
		{"targets of weak cells", with("b = new d", "a = weak b", "yield", "print a"), 3, []int{1}},
		{"targets of weak cells that are live", with("b = new d", "a = weak b", "yield", "print b"), 3, []int{0}},
		{"pending exceptions", with("a = new d", "try", "throw a", "finally", "yield", "end"), 4, []int{0}},
		{"pending returns", with("a = new d", "try", "return a", "finally", "yield", "end"), 4, []int{0}},
		{"lower frames", with("a = new d", "b = new d", "x = call f0", "print a"), 3, []int{0}},
		{"arguments", with("a = new d", "b = new d", "x = call f1 b", "print a"), 3, []int{0, 1}},
		{"other threads", with("a = new d", "spawn 0 f1 a", "b = new d", "a = new d", "yield", "print b"), 4, []int{0, 1}},
		{"what is returned, and read later", with("a = new d", "a = call f1 a", "print a"), 4, []int{0}},
		{"what is returned, and not read", with("a = new d", "a = call f1 a", "yield", "yield"), 4, nil},
		{"what a caught exception is", with("a = new d", "try", "throw a", "catch e", "print e", "end"), 3, []int{0}},
		{"what a caught exception is, and nobody reads", with("a = new d", "try", "throw a", "catch e", "yield", "end"), 3, nil},
	} {
		if got, _ := kept(t, c.text, c.steps); !slices.Equal(got, c.want) {
			t.Errorf("%s: the cells %v, not %v", c.what, got, c.want)
		}
	}
}

// P7.6: weak cells give up their targets at an epoch, if nobody else holds them, and are nil then.
func TestWeakCells(t *testing.T) {
	text := with("a = new c", "w = weak a", "x = deref w", "print x", "a = 1", "yield", "x = deref w", "print x", "x = deref w", "print x")
	w := rich(1)
	for epoch, want := range map[int][]string{0: {"<c>", "<c>", "<c>"}, 2: {"nil", "nil", "nil"}, 7: {"<c>", "<c>", "<c>"}, 8: {"<c>", "<c>", "nil"}, 5: {"<c>", "nil", "nil"}} {
		w.Epoch = epoch
		var got []string
		m := begun(t, text, w)
		m.Run(100)
		for _, e := range m.Events() {
			if e.Kind == api.EvPrint {
				got = append(got, e.Text)
			}
		}
		if !slices.Equal(got, want) {
			t.Errorf("epochs after %d lines: %q, not %q", epoch, got, want)
		}
	}
}

// P7.6: after an epoch Used is what the cells take that are left; the event shows it for all tenants.
func TestUsedAfterEpoch(t *testing.T) {
	text := written("class c x y", "func main", "a = new c", "spawn 1 f a", "spawn 3 f a", "yield", "yield", "yield", "print a", "endfunc", "func f a", "b = new c", "b = weak a", "yield", "print b", "endfunc")
	w := rich(4)
	w.Choices = []int{1, -1, 0}
	w.Epoch = 11
	m := begun(t, text, w)
	m.Run(10)
	if used := m.Image().Used; !slices.Equal(used, []int{32, 56, 0, 56}) || len(m.Events()) > 0 {
		t.Errorf("used %v before the epoch, events %q", used, allShown(m.Events()))
	}
	m.Run(1)
	if used := m.Image().Used; !slices.Equal(used, []int{32, 24, 0, 24}) {
		t.Errorf("used %v after the epoch", used)
	}
	sameEvents(t, "used", m, "epoch -1/0 0.0 32 24 0 24")
}

// P7.6: finalisers of several cells in one epoch, in the order in which they were registered, at most once, and not before their cells are gone.
func TestFinalisers(t *testing.T) {
	text := written("class c", "func main", "a = new c", "b = new c", "d = new c", "final b g", "final a f", "final d f", "final a g", "final a e", "yield", "print d", "yield", "yield", "endfunc",
		"func f", "x = 'f'", "print x", "endfunc", "func g", "x = 'g'", "print x", "endfunc", "func e", "endfunc")
	w := rich(2)
	w.Epoch = 9
	w.Choices = []int{0, 1, 1, 1}
	m := begun(t, text, w)
	m.Run(9)
	sameEvents(t, "the first epoch", m, "final 1/0 2.0", "final 2/0 1.0", "final 3/0 2.0", "final 4/0 3.0", "end 4/0 3.0 nil", "epoch -1/0 0.0 16 0")
	want := []api.Thread{
		{Id: 0, Frames: []api.Frame{{Fun: 0, Line: 9, Vars: []api.Value{unset, unset, ref(2)}}}},
		{Id: 1, Frames: []api.Frame{{Fun: 2, Vars: []api.Value{unset}}}}, {Id: 2, Frames: []api.Frame{{Fun: 1, Vars: []api.Value{unset}}}}, {Id: 3, Frames: []api.Frame{{Fun: 2, Vars: []api.Value{unset}}}},
	}
	cells := []api.Entry{{Id: 2, Cell: api.Cell{Kind: api.Object}}}
	isImage(t, "the first epoch", m.Image(), api.Image{Threads: want, Cells: cells, Finals: []api.Final{{Cell: 2, Fun: 1}}, Next: 3, Born: 5, Steps: 9, Fuel: []int{991, 1000}, Used: []int{16, 0}, Choice: 1})
	m.Run(100)
	var starts []string
	for _, e := range m.Events() {
		if e.Kind == api.EvFinal || e.Kind == api.EvPrint {
			starts = append(starts, shown(e))
		}
	}
	if want := []string{"final 1/0 2.0", "final 2/0 1.0", "final 3/0 2.0", "final 4/0 3.0", "print 0/0 0.9 <c>", "print 1/0 2.1 g", "print 2/0 1.1 f", "print 3/0 2.1 g", "final 5/0 1.0", "print 5/0 1.1 f"}; !slices.Equal(starts, want) {
		t.Errorf("%q, not %q", starts, want)
	}
	if image := m.Image(); len(image.Finals) > 0 || image.Born != 6 {
		t.Errorf("at the end: %+v", image)
	}
}

// P7.6: finalisers have the tenants of the threads that registered them, and may have no fuel.
func TestFinalisersOfTenants(t *testing.T) {
	text := written("class c", "func main", "a = new c", "spawn 1 h a", "yield", "a = 1", "yield", "a = 2", "endfunc", "func f", "x = 'f'", "print x", "endfunc", "func h a", "final a f", "endfunc")
	w := fuelled(50, 1)
	w.Epoch = 5
	w.Choices = []int{1, 1}
	happens(t, "of another tenant", text, w, "end 1/1 2.1 nil", "final 2/1 1.0", "epoch -1/0 0.0 0 0", "fuel 2/1 1.0", "end 0/0 0.6 nil")
}

// gone returns an image with this many threads at a yield, and finalisers of cells that are gone: f prints, and e has no lines.
func gone(threads int, finals ...int) api.Image {
	m := api.Image{Next: 99, Born: 40, Steps: 6, Fuel: []int{100}, Used: []int{500}}
	for id := range threads {
		m.Threads = append(m.Threads, api.Thread{Id: id, Frames: []api.Frame{{Fun: 0}}})
	}
	for n, fun := range finals {
		m.Finals = append(m.Finals, api.Final{Cell: 10 * n, Fun: fun})
	}
	return m
}

// P7.6: there are never more than 16 threads: further finalisers wait for another epoch; one without lines needs only room for a moment.
func TestFinalisersOfManyThreads(t *testing.T) {
	text := written("func main", "yield", "yield", "yield", "endfunc", "func f", "x = 'f'", "print x", "endfunc", "func e", "endfunc")
	for _, c := range []struct {
		threads int
		finals  []int
		want    []string
		left    []int
	}{
		{1, []int{1, 2, 1}, []string{"final 40/0 1.0", "final 41/0 2.0", "end 41/0 2.0 nil", "final 42/0 1.0", "epoch -1/0 0.0 0"}, nil},
		{14, []int{1, 2, 1, 2, 1}, []string{"final 40/0 1.0", "final 41/0 2.0", "end 41/0 2.0 nil", "final 42/0 1.0", "epoch -1/0 0.0 0"}, []int{2, 1}},
		{15, []int{1, 1}, []string{"final 40/0 1.0", "epoch -1/0 0.0 0"}, []int{1}},
		{15, []int{2, 2, 2, 1, 2}, []string{"final 40/0 2.0", "end 40/0 2.0 nil", "final 41/0 2.0", "end 41/0 2.0 nil", "final 42/0 2.0", "end 42/0 2.0 nil", "final 43/0 1.0", "epoch -1/0 0.0 0"}, []int{2}},
		{16, []int{1, 2}, []string{"epoch -1/0 0.0 0"}, []int{1, 2}},
		{16, nil, []string{"epoch -1/0 0.0 0"}, nil},
	} {
		w := fuelled(100)
		w.Epoch = 7
		m := loaded(t, text, w, gone(c.threads, c.finals...))
		m.Step()
		sameEvents(t, strconv.Itoa(c.threads)+" threads", m, c.want...)
		var left []int
		for _, f := range m.Image().Finals {
			left = append(left, f.Fun)
		}
		if !slices.Equal(left, c.left) {
			t.Errorf("%d threads: the finalisers %v are left, not %v", c.threads, left, c.left)
		}
		m.Run(1000)
		if m.Step() {
			t.Errorf("%d threads: it does not end", c.threads)
		}
	}
	// When threads have ended, those that are left start.
	w := fuelled(100)
	w.Epoch = 7
	m := loaded(t, text, w, gone(16, 1, 1, 1))
	m.Run(8)
	sameEvents(t, "later", m, "epoch -1/0 0.0 0", "end 0/0 0.3 nil", "end 1/0 0.3 nil", "final 40/0 1.0", "final 41/0 1.0", "epoch -1/0 0.0 0")
	if finals := m.Image().Finals; !slices.Equal(finals, []api.Final{{Cell: 20, Fun: 1}}) {
		t.Errorf("later: %v are left", finals)
	}
}

// P7.6: an epoch at once starts finalisers, too, before the effect of the line; the thread goes on.
func TestFinalisersAtOnce(t *testing.T) {
	text := written("class c", "func main", "a = new c", "final a f", "a = new c", "print a", "yield", "yield", "endfunc", "func f", "x = 'f'", "print x", "endfunc")
	w := limited(16)
	w.Choices = []int{1}
	m := happens(t, "at once", text, w, "final 1/0 1.0", "epoch -1/0 0.0 0", "print 0/0 0.3 <c>", "print 1/0 1.1 f", "end 1/0 1.2 nil", "end 0/0 0.6 nil")
	if used := m.Image().Used; !slices.Equal(used, []int{16}) {
		t.Errorf("used %v", used)
	}
}

// P7.6: an epoch after the line that had one at once is a second one.
func TestTwoEpochs(t *testing.T) {
	w := limited(16)
	w.Epoch = 2
	happens(t, "two", with("a = new d", "a = new d", "yield", "print a"), w, "epoch -1/0 0.0 0", "epoch -1/0 0.0 16", "print 0/0 5.3 <d>", "end 0/0 5.4 nil", "epoch -1/0 0.0 0")
}
