package interp

import (
	"slices"
	"strings"
	"testing"

	"facsimile/api"
	"facsimile/source"
)

// classes are those of the programs of these tests; g has one parameter, and h two.
const classes = "class P x; method m g; method n h; class Q x y; method m g; class R; class S y; class T x z; class U z; "

const functions = "func g self; return self; endfunc; func h self a; return a; endfunc; "

// mainOf returns a program with these classes, and functions, whose main is the function 2.
func mainOf(t *testing.T, lines string) api.Program {
	t.Helper()
	return parsed(t, classes+functions+"func main; "+lines+"; endfunc")
}

// rounds returns lines that execute other ones several times.
func rounds(n, lines string) string {
	return "i = " + n + "; zero = 0; one = 1; more = true; while more; " + lines + "; i = i - one; more = zero < i; end"
}

// P13.4: which lines look up, which look-ups are hits, and what is learned.
func TestHits(t *testing.T) {
	for lines, want := range map[string][2]int{
		"yield": {0, 0},
		// The examples: two sites, and one that is executed three times.
		"p = new P; v = p.x; v = p.x":          {0, 2},
		"p = new P; " + rounds("3", "v = p.x"): {2, 1},
		// Hits and misses of each operator.
		"p = new P; " + rounds("4", "p.x = i"):                        {3, 1},
		"p = new P; " + rounds("4", "v = send p m"):                   {3, 1},
		"p = new P; " + rounds("4", "v = send p n i"):                 {3, 1},
		"p = new P; " + rounds("2", "v = p.x; p.x = i; v = send p m"): {3, 3},
		// What the object does not have is not learned.
		"p = new P; " + rounds("3", "try; v = p.y; catch e; end"):      {0, 3},
		"p = new P; " + rounds("3", "try; v = send p o; catch e; end"): {0, 3},
		"p = new R; " + rounds("3", "try; v = send p m; catch e; end"): {0, 3},
		"p = new P; v = p.y":      {0, 1},
		"p = new P; v = send p o": {0, 1},
		// A field that is new is not learned: the shape that was looked up does not have it.
		"p = new R; p.x = p; v = p.x":                       {0, 2},
		rounds("3", "p = new R; p.x = p"):                   {0, 3},
		rounds("3", "p = new R; p.x = p; p.x = i"):          {2, 4},
		"p = new R; " + rounds("3", "p.x = i"):              {1, 2},
		"p = new R; " + rounds("4", "p.x = i; v = p.x"):     {5, 3},
		rounds("3", "p = new R; p.x = i; p.y = i; v = p.y"): {2, 7},
		"q = new R; q.y = q; p = new R; p.x = p; p.y = q; l = 2; r = array l; i = 0; r[i] = p; i = 1; r[i] = q; j = i - i; p = r[j]; v = p.y; p = r[i]; v = p.y": {0, 5},
		// The method is found, though its function does not begin: a call with a wrong number of arguments, and one too many.
		"p = new P; " + rounds("3", "try; v = send p m i; catch e; end"): {2, 1},
		"p = new P; " + rounds("3", "try; v = send p n; catch e; end"):   {2, 1},
		// No look-up: a variable that is unset, the object or another one; no object.
		"v = p.x":                   {0, 0},
		"p.x = i":                   {0, 0},
		"v = send p m":              {0, 0},
		"p = new P; p.x = u":        {0, 0},
		"p = new P; u.x = p":        {0, 0},
		"p = new P; v = send p n u": {0, 0},
		"p = new P; v = send p n u p; v = send p n p u":                                                {0, 0},
		"p = new P; try; p.x = u; catch e; end; " + rounds("2", "try; p.x = u; catch e; p.x = i; end"): {1, 1},
		"p = 1; v = p.x":                                                {0, 0},
		"p = 's'; p.x = p":                                              {0, 0},
		"p = nil; v = send p m":                                         {0, 0},
		"i = 1; p = array i; v = p.x":                                   {0, 0},
		"i = 1; p = array i; p.x = i":                                   {0, 0},
		"i = 1; p = array i; v = send p m":                              {0, 0},
		"q = new P; p = weak q; v = p.x":                                {0, 0},
		"p = bind main; v = send p m":                                   {0, 0},
		"p = bind main; try; p.x = p; catch e; end; p = new P; v = p.x": {0, 1},
		// Other lines with objects look nothing up.
		"p = new P; i = 0; try; v = p[i]; catch e; end; print p; v = p == p; w = weak p; v = deref w; final p main; try; v = len p; catch e; end; try; v = apply p; catch e; end; v = call g p": {0, 0},
		// A site that is not executed.
		"p = new P; if p; v = p.x; end":            {0, 0},
		"p = new P; b = false; if b; v = p.x; end": {0, 0},
	} {
		two := begunPair(t, mainOf(t, lines), rich(1))
		hasHits(t, lines, two.machine, 0, 0)
		two.machine.Run(1000)
		two.source.Run(1000)
		two.alike()
		hasHits(t, lines, two.machine, want[0], want[1])
	}
}

// P13.4: up to four shapes are known to a site; with a fifth one nothing is known any more.
func TestSeveralShapes(t *testing.T) {
	for names, want := range map[string][2]int{
		"P":               {3, 1},
		"P Q":             {6, 2},
		"P Q T":           {9, 3},
		"P Q T S":         {12, 4}, // S gets the field x, which it does not have at first
		"P Q T S U":       {0, 20},
		"P P P Q":         {14, 2},
		"P Q T S P U":     {1, 23},
		"P Q T S P U P":   {1, 27},
		"P Q T S T U Q Q": {1, 31},
	} {
		var lines []string
		list := strings.Fields(names)
		for n, class := range list {
			lines = append(lines, "p = new "+class, "p.x = p", "i = "+string(rune('0'+n)), "r[i] = p")
		}
		lines = append([]string{"n = 9", "r = array n"}, lines...)
		walk := "k = 4; zero = 0; one = 1; outer = true; while outer; i = 0; more = true; while more; p = r[i]; v = p.x; i = i + one; more = i < n; end; k = k - one; outer = zero < k; end"
		// The array is passed to a function whose site is the only one that is executed again.
		p := parsed(t, classes+functions+"func main; "+strings.Join(lines, "; ")+"; n = "+string(rune('0'+len(list)))+"; v = call walk r n; endfunc; func walk r n; "+walk+"; endfunc")
		two := begunPair(t, p, rich(1))
		two.machine.Run(1000)
		two.source.Run(1000)
		two.alike()
		// Each set before is a site of its own.
		hasHits(t, names, two.machine, want[0], want[1]+len(list))
	}
}

// P13.4: sites belong to instructions, not to threads and frames.
func TestSitesOfFunctions(t *testing.T) {
	for text, want := range map[string][2]int{
		"func main; p = new P; spawn 0 f p; spawn 1 f p; v = call f p; v = call f p; yield; yield; yield; endfunc; func f p; v = p.x; yield; p.x = v; endfunc":           {6, 2},
		"func main; p = new P; q = new Q; spawn 0 f p; spawn 0 f q; spawn 0 f p; spawn 0 f q; endfunc; func f p; v = p.x; v = send p m; endfunc":                         {4, 4},
		"func main; p = new P; n = 5; v = call f p n; endfunc; func f p n; v = p.x; one = 1; n = n - one; b = one < n; if b; v = call f p n; end; v = send p m; endfunc": {6, 2},
		"func main; p = new P; v = send p n p; v = send p n p; endfunc; func f; endfunc":                                                                                 {0, 2},
	} {
		p := parsed(t, classes+functions+text)
		m := begun(t, p, rich(2))
		m.Run(1000)
		hasHits(t, text, m, want[0], want[1])
		if s, _ := source.New(p, rich(2)); s.Run(1000) != m.Image().Steps {
			t.Errorf("%s: %d steps", text, m.Image().Steps)
		}
	}
}

// P13.4: the counts begin with Load, and the caches know nothing then.
func TestHitsSinceLoad(t *testing.T) {
	p := mainOf(t, "p = new P; "+rounds("3", "v = p.x"))
	first := begun(t, p, rich(1))
	first.Run(11)
	hasHits(t, "in the second round", first, 0, 1)
	m := loaded(t, p, compiled(t, p), rich(1), first.Image())
	hasHits(t, "loaded", m, 0, 0)
	m.Run(1000)
	hasHits(t, "loaded, at the end", m, 1, 1)
	hasHits(t, "not run further", first, 0, 1)
	first.Run(1000)
	hasHits(t, "at the end", first, 2, 1)
}

// P13.4: with a code in which the instruction of a line is there twice, each one has a cache.
func TestSitesAreInstructions(t *testing.T) {
	p := parsed(t, "class P x; func main; p = new P; n = 6; z = 0; o = 1; c = true; while c; v = p.x; n = n - o; c = z < n; end; endfunc")
	c := changed(t, p, func(f *api.CodeFunc) {
		// The loop is unrolled: BFalse (5), get (6), sub (7), less (8), BFalse (9, 5), get (6), sub (7), less (8), BJump (9).
		body, back, again := slices.Clone(f.Ins[6:9]), f.Ins[9], f.Ins[5]
		again.Lines = []int{9, 5}
		f.Ins = append(append(append(f.Ins[:9:9], again), body...), back)
		f.Ins[5].A, f.Ins[9].A = len(f.Ins), len(f.Ins)
	})
	m := loaded(t, p, c, rich(1), source.Begin(p, rich(1)))
	m.Run(1000)
	hasHits(t, "unrolled", m, 4, 2)
	m = loaded(t, p, compiled(t, p), rich(1), source.Begin(p, rich(1)))
	m.Run(1000)
	hasHits(t, "compiled", m, 5, 1)
}

// P13.4, P13.5: a look-up migrates its object; a shape that was split or merged is another one for a cache.
func TestMergeAndSplit(t *testing.T) {
	p := mainOf(t, "p = new P; "+rounds("9", "v = p.x"))
	two := begunPair(t, p, rich(1))
	m := two.machine
	// A round has five lines, and ends before the get; the shapes of the six classes have the numbers 0 to 5.
	round := func(hits, misses int) {
		t.Helper()
		two.run(5)
		hasHits(t, "a round", m, hits, misses)
	}
	two.run(6)
	round(0, 1)
	round(1, 1)
	splits(t, m, 0, 6)
	round(2, 1) // the object keeps its shape
	merges(t, m, 6, 0)
	round(2, 2) // and now it has another one, which is learned
	round(3, 2)
	merges(t, m, 0, 6)
	round(4, 2) // both are the same already
	splits(t, m, 0, 7)
	merges(t, m, 7, 6)
	round(4, 3)
	two.run(100)
	hasHits(t, "at the end", m, 6, 3)
	two.alike()
}

// P13.4: nothing but look-ups, and lines get and set, gives an object another shape; with the classes of these tests the shape of new ones is split.
func TestShapesStay(t *testing.T) {
	for _, lines := range []string{"try; p[one] = one; catch e; end", "try; v = p[one]; catch e; end", "print p", "try; v = apply p; catch e; end", "try; v = send p o; catch e; end", "try; v = p.u; catch e; end", "w = weak p; v = deref w", "v = p == p", "try; v = len p; catch e; end"} {
		p := mainOf(t, "p = new P; "+rounds("3", lines+"; v = p.x"))
		m := begun(t, p, rich(1))
		for m.Heat(place(2, 5)) == 0 {
			m.Step()
		}
		_, misses := m.Hits()
		splits(t, m, 0, 6)
		before, _ := m.Hits()
		m.Run(1000)
		if hits, _ := m.Hits(); hits != before+2 || misses < 1 {
			t.Errorf("%s: %d hits, before %d, and %d misses", lines, hits, before, misses)
		}
	}
}

func splits(t *testing.T, m *Machine, a, want int) {
	t.Helper()
	if split, e := m.Split(a); split != want || e != api.OK {
		t.Errorf("Split(%d) returns %d, %d, want %d", a, split, e, want)
	}
}

func merges(t *testing.T, m *Machine, a, b int) {
	t.Helper()
	if e := m.Merge(a, b); e != api.OK {
		t.Errorf("Merge(%d, %d) returns %d", a, b, e)
	}
}

// P13.5: a split gives new objects another shape, as long as it is not merged.
func TestSplitsOfRoots(t *testing.T) {
	p := mainOf(t, rounds("8", "p = new P; v = p.x"))
	for _, merge := range []bool{false, true} {
		two := begunPair(t, p, rich(1))
		two.run(4)
		root := 0
		for n := range 8 {
			two.run(6)
			if merge {
				hasHits(t, "the same shape each time", two.machine, n, 1)
			} else {
				hasHits(t, "a new shape each time", two.machine, 0, n+1)
			}
			splits(t, two.machine, root, 6+n)
			if merge {
				merges(t, two.machine, root, 6+n)
			} else {
				root = 6 + n
			}
		}
	}
}

// P13.5: Merge and Split have the errors of cells.
func TestErrorsOfMergeAndSplit(t *testing.T) {
	m := begun(t, mainOf(t, "p = new P; p.y = p; yield"), rich(1))
	m.Run(2) // with the shape 6, of P with x and y
	for _, x := range []struct{ a, b int }{{0, 7}, {7, 0}, {-1, 0}, {0, -1}, {0, 1}, {0, 6}, {6, 1}, {6, 0}, {1 << 62, -1 << 63}} {
		if e := m.Merge(x.a, x.b); e != api.ErrArg {
			t.Errorf("Merge(%d, %d) returns %d", x.a, x.b, e)
		}
	}
	for _, a := range []int{-1, 7, 1 << 62, -1 << 63} {
		if split, e := m.Split(a); split != 0 || e != api.ErrArg {
			t.Errorf("Split(%d) returns %d, %d", a, split, e)
		}
	}
	merges(t, m, 6, 6)
	for n := 7; n < api.MaxShapes; n++ {
		splits(t, m, n%7, n)
	}
	if split, e := m.Split(0); split != 0 || e != api.ErrMany {
		t.Errorf("Split returns %d, %d", split, e)
	}
	if split, e := m.Split(api.MaxShapes); split != 0 || e != api.ErrArg {
		t.Errorf("Split returns %d, %d", split, e)
	}
}

// P13.4, P13.5: an object without a shape is not looked up, though its lines are carried out.
func TestNoShape(t *testing.T) {
	p := mainOf(t, "p = new P; p.y = p; v = p.x; v = p.y; p.x = v; p.z = v; v = p.z; v = send p m; try; v = p.u; catch e; print e; end; try; v = send p u; catch e; print e; end; q = new P; v = q.x; q.x = v; v = send q m; print v")
	for steps, want := range map[int]int{0: 4, 1: 4, 2: 8, 5: 8, 6: 12, 99: 12} {
		two := begunPair(t, p, rich(1))
		two.run(steps)
		for n := 6; n < api.MaxShapes+1; n++ {
			two.machine.Split(1)
		}
		two.run(100)
		hasHits(t, "no more shapes", two.machine, 0, want)
	}
}
