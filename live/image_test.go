package live

import (
	"math"
	"math/rand/v2"
	"reflect"
	"slices"
	"testing"

	"facsimile/api"
)

var (
	null  = api.Value{Kind: api.Nil}
	yes   = api.Value{Kind: api.Bool, N: 1}
	unset = api.Value{}
)

func ref(n int) api.Value { return api.Value{Kind: api.Ref, N: n} }

func integer(n int) api.Value { return api.Value{Kind: api.Int, N: n} }

func str(s string) api.Value { return api.Value{Kind: api.Str, S: s} }

// refsFrom returns a list of refs to n cells, with ids from first on.
func refsFrom(first, n int) []api.Value {
	var l []api.Value
	for k := range n {
		l = append(l, ref(first+k))
	}
	return l
}

// imageOf returns an image with one thread, which has these frames.
func imageOf(frames ...api.Frame) api.Image {
	return api.Image{Threads: []api.Thread{{Frames: frames}}}
}

// same reports whether two images are equal, where a nil list is like an empty one.
func same(a, b api.Image) bool {
	frames := func(a, b api.Frame) bool {
		return a.Fun == b.Fun && a.Line == b.Line && slices.Equal(a.Vars, b.Vars) && slices.Equal(a.Pend, b.Pend)
	}
	threads := func(a, b api.Thread) bool {
		return a.Id == b.Id && a.Tenant == b.Tenant && slices.EqualFunc(a.Frames, b.Frames, frames)
	}
	cells := func(a, b api.Entry) bool {
		c, d := a.Cell, b.Cell
		return a.Id == b.Id && c.Kind == d.Kind && c.Class == d.Class && c.Fun == d.Fun && c.Tenant == d.Tenant && slices.Equal(c.Names, d.Names) && slices.Equal(c.Items, d.Items)
	}
	return slices.EqualFunc(a.Threads, b.Threads, threads) && slices.EqualFunc(a.Cells, b.Cells, cells) && slices.Equal(a.Finals, b.Finals) &&
		a.Next == b.Next && a.Born == b.Born && a.Now == b.Now && a.Steps == b.Steps && slices.Equal(a.Fuel, b.Fuel) && slices.Equal(a.Used, b.Used) && a.In == b.In && a.Clock == b.Clock && a.Choice == b.Choice
}

// P5.2: the example of the chapter.
func TestClearExample(t *testing.T) {
	p := mainOf(t, "i = 0", "b = true", "while b", "try", "c = i / i", "catch e", "print i", "end", "end")
	i := info(t, p)
	if !slices.Equal(i.Slots[0], []string{"i", "b", "c", "e"}) {
		t.Fatalf("slots %q", i.Slots[0])
	}
	got := Clear(p, i, imageOf(api.Frame{Line: 2, Vars: []api.Value{integer(1), yes, integer(2), str("x")}}))
	if want := imageOf(api.Frame{Line: 2, Vars: []api.Value{integer(1), yes, unset, unset}}); !same(got, want) {
		t.Errorf("Clear = %+v", got)
	}
}

// caller is a function that calls itself at line 1, where before it x and y are live, and across it x; z is live nowhere.
const caller = "func main\nendfunc\nfunc f x y z\nz = 1\nz = call f x x y\nprint x\nreturn z\nendfunc\n"

// values has a value of each kind, and some that are not right; unset ones are among them.
func values() []api.Value {
	return []api.Value{unset, null, yes, {Kind: api.Bool}, integer(5), str("s"), ref(0), ref(7), {Kind: api.Fun}, {Kind: api.Fun, N: 1}, {Kind: 9, N: 4}, {Kind: -1}, {N: 3}, {S: "t"}, {Kind: api.Ref, N: -5, S: "u"}, integer(math.MaxInt)}
}

// P5.2: a variable becomes unset, whatever its value is, or keeps its value as it is.
func TestClearValues(t *testing.T) {
	p := parsed(t, caller)
	i := info(t, p)
	for _, v := range values() {
		frame := api.Frame{Fun: 1, Line: 2, Vars: []api.Value{v, v, v}}
		want := api.Frame{Fun: 1, Line: 2, Vars: []api.Value{v, unset, v}}
		if got := Clear(p, i, imageOf(frame)); !same(got, imageOf(want)) {
			t.Errorf("Clear of %+v: %+v", v, got)
		}
	}
}

// P5.2: the last frame keeps what is live before its line, the others what is live across it.
func TestClearFrames(t *testing.T) {
	p := parsed(t, caller)
	i := info(t, p)
	at := func(line int, slots ...int) api.Frame {
		f := api.Frame{Fun: 1, Line: line, Vars: make([]api.Value, 3)}
		for _, slot := range slots {
			f.Vars[slot] = ref(slot)
		}
		return f
	}
	full := func(line int) api.Frame { return at(line, 0, 1, 2) }
	before := []api.Frame{at(0, 0, 1), at(1, 0, 1), at(2, 0, 2), at(3, 2), at(4)}
	across := []api.Frame{at(0, 0, 1), at(1, 0), at(2, 2), at(3)}
	for line, want := range before {
		if got := Clear(p, i, imageOf(full(line))); !same(got, imageOf(want)) {
			t.Errorf("alone at %d: %+v", line, got)
		}
		if got := Clear(p, i, imageOf(full(1), full(1), full(line))); !same(got, imageOf(across[1], across[1], want)) {
			t.Errorf("last at %d: %+v", line, got)
		}
	}
	for line, want := range across {
		if got := Clear(p, i, imageOf(full(line), full(0))); !same(got, imageOf(want, before[0])) {
			t.Errorf("first at %d: %+v", line, got)
		}
		if got := Clear(p, i, imageOf(full(1), full(line), full(4))); !same(got, imageOf(across[1], want, before[4])) {
			t.Errorf("in the middle at %d: %+v", line, got)
		}
	}
	// Each thread has a last frame of its own.
	m := api.Image{Threads: []api.Thread{{Frames: []api.Frame{full(1), full(1)}}, {}, {Frames: []api.Frame{full(1)}}, {Frames: []api.Frame{full(3), full(2)}}}}
	want := api.Image{Threads: []api.Thread{{Frames: []api.Frame{across[1], before[1]}}, {}, {Frames: []api.Frame{before[1]}}, {Frames: []api.Frame{across[3], before[2]}}}}
	if got := Clear(p, i, m); !same(got, want) {
		t.Errorf("threads: %+v", got)
	}
}

// wrongFrames returns frames of caller with one thing wrong each, which stay as they are wherever they are in a thread.
func wrongFrames() []api.Frame {
	vars := func(n int) []api.Value { return refsFrom(10, n) }
	frames := []api.Frame{}
	for _, fun := range []int{-1, 2, 3, math.MinInt, math.MaxInt} {
		frames = append(frames, api.Frame{Fun: fun, Line: 2, Vars: vars(3)}, api.Frame{Fun: fun})
	}
	for _, n := range []int{0, 1, 2, 4, 5, 24, 25, 200} {
		frames = append(frames, api.Frame{Fun: 1, Line: 2, Vars: vars(n)})
	}
	for _, line := range []int{-1, 5, 6, 60, math.MinInt, math.MaxInt} {
		frames = append(frames, api.Frame{Fun: 1, Line: line, Vars: vars(3)})
	}
	// A function without slots has frames without variables.
	frames = append(frames, api.Frame{Vars: vars(1)}, api.Frame{Vars: []api.Value{unset}}, api.Frame{Line: 1}, api.Frame{Fun: 1, Line: 0})
	for n := range frames {
		frames[n].Pend = []api.Pending{{Kind: api.PendReturn, Value: ref(n)}}
	}
	return frames
}

// P5.2: frames with something that is not right stay as they are, and the others are cleared.
func TestClearWrongFrames(t *testing.T) {
	p := parsed(t, caller)
	i := info(t, p)
	good := api.Frame{Fun: 1, Line: 1, Vars: refsFrom(0, 3)}
	across := api.Frame{Fun: 1, Line: 1, Vars: []api.Value{ref(0), unset, unset}}
	before := api.Frame{Fun: 1, Line: 1, Vars: []api.Value{ref(0), ref(1), unset}}
	for n, f := range wrongFrames() {
		if got := Clear(p, i, imageOf(f)); !same(got, imageOf(f)) {
			t.Errorf("%d alone: %+v", n, got)
		}
		if got := Clear(p, i, imageOf(good, f)); !same(got, imageOf(across, f)) {
			t.Errorf("%d last: %+v", n, got)
		}
		if got := Clear(p, i, imageOf(good, f, good)); !same(got, imageOf(across, f, before)) {
			t.Errorf("%d in the middle: %+v", n, got)
		}
	}
}

// P5.2: the end of the function is a line for the last frame alone; there nothing is live.
func TestClearAtTheEnd(t *testing.T) {
	p := parsed(t, caller)
	i := info(t, p)
	end := api.Frame{Fun: 1, Line: 4, Vars: refsFrom(0, 3)}
	cleared := api.Frame{Fun: 1, Line: 4, Vars: make([]api.Value, 3)}
	if got := Clear(p, i, imageOf(end, end, end)); !same(got, imageOf(end, end, cleared)) {
		t.Errorf("Clear = %+v", got)
	}
	if got := Roots(p, i, imageOf(end, end, end)); !slices.Equal(got, slices.Concat(refsFrom(0, 3), refsFrom(0, 3))) {
		t.Errorf("Roots = %+v", got)
	}
	// The end of a function without lines.
	empty := api.Frame{Fun: 0, Line: 0}
	if got := Clear(p, i, imageOf(empty, empty)); !same(got, imageOf(empty, empty)) {
		t.Errorf("Clear without lines = %+v", got)
	}
}

// fullImage returns an image all of whose fields are set, of threads of caller.
func fullImage() api.Image {
	pend := []api.Pending{{}, {Kind: api.PendThrow, Value: ref(4), Place: api.Place{Fun: 1, Line: 3}}, {Kind: api.PendReturn, Value: str("p")}}
	return api.Image{
		Threads: []api.Thread{
			{Id: 2, Tenant: 1, Frames: []api.Frame{
				{Fun: 1, Line: 1, Vars: refsFrom(0, 3), Pend: pend[:2:2]},
				{Fun: 1, Line: 2, Vars: refsFrom(3, 3), Pend: pend[1:]},
			}},
			{Id: 5, Tenant: 3, Frames: []api.Frame{{Fun: 0, Line: 0}}},
			{Id: 6},
		},
		Cells: []api.Entry{
			{Id: 1, Cell: api.Cell{Kind: api.Object, Class: 2, Tenant: 1, Names: []string{"f", "g"}, Items: []api.Value{ref(1), null}}},
			{Id: 3, Cell: api.Cell{Kind: api.Closure, Fun: 1, Items: []api.Value{unset}}},
		},
		Finals: []api.Final{{Cell: 1, Fun: 0, Tenant: 2}, {Cell: 2}},
		Next:   9, Born: 8, Now: 5, Steps: 77,
		Fuel: []int{1, 2}, Used: []int{3, 4, 5},
		In: 6, Clock: 7, Choice: 8,
	}
}

// P5.2: nothing but variables is changed, in an image all of whose fields are set.
func TestClearKeepsTheRest(t *testing.T) {
	p := parsed(t, caller)
	want := fullImage()
	want.Threads[0].Frames[0].Vars = []api.Value{ref(0), unset, unset}
	want.Threads[0].Frames[1].Vars = []api.Value{ref(3), unset, ref(5)}
	if got := Clear(p, info(t, p), fullImage()); !reflect.DeepEqual(got, want) {
		t.Errorf("Clear = %+v", got)
	}
}

// P5.2, P5.3: images without threads, frames or variables.
func TestEmptyImages(t *testing.T) {
	p := parsed(t, caller)
	i := info(t, p)
	for n, m := range []api.Image{
		{},
		{Threads: []api.Thread{}},
		{Threads: []api.Thread{{Id: 1}, {Frames: []api.Frame{}}}},
		imageOf(api.Frame{}),
		imageOf(api.Frame{Vars: []api.Value{}, Pend: []api.Pending{}}),
		imageOf(api.Frame{Fun: 1}),
	} {
		if got := Clear(p, i, m); !same(got, m) {
			t.Errorf("%d: Clear = %+v", n, got)
		}
		if got := Roots(p, i, m); len(got) > 0 {
			t.Errorf("%d: Roots = %+v", n, got)
		}
	}
}

// P5.3: the refs of the variables that are left, and then those that are pending, frame by frame and thread by thread.
func TestRoots(t *testing.T) {
	p := parsed(t, caller)
	i := info(t, p)
	pend := func(values ...api.Value) []api.Pending {
		var l []api.Pending
		for n, v := range values {
			l = append(l, api.Pending{Kind: n % 3, Value: v})
		}
		return l
	}
	m := api.Image{
		Threads: []api.Thread{
			{Id: 1, Frames: []api.Frame{
				{Fun: 1, Line: 1, Vars: refsFrom(10, 3), Pend: pend(ref(14), null, ref(13))},
				{Fun: 1, Line: 2, Vars: refsFrom(20, 3)},
			}},
			{Id: 2},
			{Id: 3, Frames: []api.Frame{
				{Fun: 0, Line: 0, Pend: pend(ref(31), ref(30), ref(31))},
				{Fun: 1, Line: 0, Vars: []api.Value{integer(40), ref(10), ref(42)}, Pend: pend(unset, str("s"))},
			}},
		},
		Cells:  []api.Entry{{Id: 50, Cell: api.Cell{Kind: api.Array, Items: refsFrom(50, 1)}}},
		Finals: []api.Final{{Cell: 60}},
	}
	want := []api.Value{ref(10), ref(14), ref(13), ref(20), ref(22), ref(31), ref(30), ref(31), ref(10)}
	if got := Roots(p, i, m); !slices.Equal(got, want) {
		t.Errorf("Roots = %+v", got)
	}
}

// P5.3: refs are roots as they are, and no other values are.
func TestRootsOfValues(t *testing.T) {
	p := parsed(t, caller)
	i := info(t, p)
	for _, v := range values() {
		var want []api.Value
		if v.Kind == api.Ref {
			want = []api.Value{v, v, v}
		}
		f := api.Frame{Fun: 1, Line: 1, Vars: []api.Value{v, v, v}, Pend: []api.Pending{{Kind: api.PendThrow, Value: v}}}
		if got := Roots(p, i, imageOf(f)); !slices.Equal(got, want) {
			t.Errorf("Roots of %+v: %+v", v, got)
		}
	}
}

// P5.3: frames that stay as they are keep all of their values, and so all of their refs are roots.
func TestRootsOfWrongFrames(t *testing.T) {
	p := parsed(t, caller)
	i := info(t, p)
	good := api.Frame{Fun: 1, Line: 1, Vars: refsFrom(0, 3)}
	for n, f := range wrongFrames() {
		refs := refsIn(f)
		if got := Roots(p, i, imageOf(f)); !slices.Equal(got, refs) {
			t.Errorf("%d alone: %+v", n, got)
		}
		if got := Roots(p, i, imageOf(good, f, good)); !slices.Equal(got, slices.Concat([]api.Value{ref(0)}, refs, []api.Value{ref(0), ref(1)})) {
			t.Errorf("%d in the middle: %+v", n, got)
		}
	}
}

// anyFrame returns a frame of a program, in which one thing or another may be wrong.
func anyFrame(r *rand.Rand, i api.Info) api.Frame {
	f := api.Frame{Fun: r.IntN(len(i.Slots))}
	f.Line = r.IntN(len(i.Ends[f.Fun]) + 1)
	f.Vars = make([]api.Value, len(i.Slots[f.Fun]))
	switch r.IntN(12) {
	case 0:
		f.Fun = r.IntN(len(i.Slots)+2) - 1
	case 1:
		f.Line = r.IntN(64) - 2
	case 2:
		f.Vars = make([]api.Value, r.IntN(8))
	}
	list := values()
	for n := range f.Vars {
		f.Vars[n] = list[r.IntN(len(list))]
	}
	for range r.IntN(3) {
		f.Pend = append(f.Pend, api.Pending{Kind: r.IntN(4), Value: list[r.IntN(len(list))], Place: api.Place{Fun: r.IntN(3), Line: r.IntN(3)}})
	}
	return f
}

// anyImage returns an image of a program.
func anyImage(r *rand.Rand, i api.Info) api.Image {
	m := api.Image{Now: r.IntN(5), Next: r.IntN(100)}
	for id := range r.IntN(5) {
		t := api.Thread{Id: id, Tenant: r.IntN(4)}
		for range r.IntN(5) {
			t.Frames = append(t.Frames, anyFrame(r, i))
		}
		m.Threads = append(m.Threads, t)
	}
	return m
}

// stays is the contract of P5.2 for a frame: what Before and Across say of each of its variables, all of which stay if something is wrong.
func stays(p api.Program, i api.Info, f api.Frame, last bool) []bool {
	rows := Across(p, i, f.Fun)
	if last {
		rows = Before(p, i, f.Fun)
	}
	if f.Line >= 0 && f.Line < len(rows) && len(rows[f.Line]) == len(f.Vars) {
		return rows[f.Line]
	}
	return slices.Repeat([]bool{true}, len(f.Vars))
}

// refsIn returns the refs that a frame has, in the order of P5.3.
func refsIn(f api.Frame) []api.Value {
	var l []api.Value
	for _, v := range f.Vars {
		if v.Kind == api.Ref {
			l = append(l, v)
		}
	}
	for _, p := range f.Pend {
		if p.Value.Kind == api.Ref {
			l = append(l, p.Value)
		}
	}
	return l
}

// P5.2, P5.3, P5.4: images that are made at random, of functions that are written at random, against what Before and Across say.
func TestAnyImages(t *testing.T) {
	for seed := range uint64(150) {
		_, p := written(t, seed)
		i := info(t, p)
		m := anyImage(rand.New(rand.NewPCG(6, seed)), i)
		want := anyImage(rand.New(rand.NewPCG(6, seed)), i)
		var roots []api.Value
		for _, th := range want.Threads {
			for n, f := range th.Frames {
				for slot, stay := range stays(p, i, f, n == len(th.Frames)-1) {
					if !stay {
						f.Vars[slot] = unset
					}
				}
				roots = append(roots, refsIn(f)...)
			}
		}
		got := Clear(p, i, m)
		if !same(got, want) {
			t.Fatalf("Clear of %+v = %+v, want %+v", m, got, want)
		}
		if again := Clear(p, i, got); !same(again, got) {
			t.Fatalf("Clear again: %+v, and before %+v", again, got)
		}
		if l := Roots(p, i, m); !slices.Equal(l, roots) {
			t.Fatalf("Roots of %+v = %+v, want %+v", m, l, roots)
		}
		if l := Roots(p, i, got); !slices.Equal(l, roots) {
			t.Fatalf("Roots of the cleared image %+v = %+v, want %+v", got, l, roots)
		}
	}
}
