package interp

import (
	"math/rand/v2"
	"slices"
	"strings"
	"testing"

	"facsimile/api"
	"facsimile/check"
	"facsimile/lang"
	"facsimile/shape"
	"facsimile/source"
)

// looks is a model of look-ups: it finds from the images of the source which of them are made, and keeps the shapes of objects by itself. It supposes that nothing runs out.
type looks struct {
	program      api.Program
	info         api.Info
	tree         *shape.Tree
	shapes       map[int]int         // of objects, by their ids
	known        map[api.Place][]int // the shapes that a site knows
	full         map[api.Place]bool
	hits, misses int
	onObjects    int // lines get, set and send that were executed on objects
}

func newLooks(p api.Program, i api.Info, image api.Image) *looks {
	l := &looks{program: p, info: i, tree: shape.New(p.Classes), shapes: map[int]int{}, known: map[api.Place][]int{}, full: map[api.Place]bool{}}
	for _, e := range image.Cells {
		if e.Cell.Kind == api.Object {
			l.shapes[e.Id] = shapeOrNone(l.tree.Make(e.Cell.Class, e.Cell.Names))
		}
	}
	return l
}

func shapeOrNone(shape int, e api.Errno) int {
	if e != api.OK {
		return -1
	}
	return shape
}

// step looks at a step of the source, between two images.
func (l *looks) step(before, after api.Image) {
	if after.Steps == before.Steps {
		return
	}
	f := topOf(before)
	at := place(f.Fun, f.Line)
	line := l.program.Funcs[f.Fun].Lines[f.Line]
	object := line.B
	switch line.Op {
	case api.OpNew:
		class := check.Class(l.program, line.Name)
		l.shapes[before.Next] = shapeOrNone(l.tree.Make(class, l.program.Classes[class].Fields))
		return
	case api.OpSet:
		object = line.A
	case api.OpGet, api.OpSend:
	default:
		return
	}
	for _, name := range append([]string{object, line.B}, line.Args...) {
		if valueOf(l.info, f, name).Kind == api.Unset {
			return
		}
	}
	v := valueOf(l.info, f, object)
	for _, e := range before.Cells {
		if v.Kind == api.Ref && v.N == e.Id && e.Cell.Kind == api.Object {
			l.onObjects++
			l.look(at, line, e)
		}
	}
}

// look makes a look-up of an object at a site.
func (l *looks) look(at api.Place, line api.Line, e api.Entry) {
	has := slices.Contains(e.Cell.Names, line.Name)
	grows := line.Op == api.OpSet && !has && len(e.Cell.Names) < api.MaxItems
	if line.Op == api.OpSend {
		has = slices.ContainsFunc(l.program.Classes[e.Cell.Class].Methods, func(m api.Method) bool { return m.Name == line.Name })
	}
	if l.shapes[e.Id] >= 0 {
		l.find(at, l.tree.Canon(l.shapes[e.Id]), has)
	}
	if grows {
		l.shapes[e.Id] = shapeOrNone(l.tree.Add(l.shapes[e.Id], line.Name))
	}
}

func (l *looks) find(at api.Place, shape int, has bool) {
	if slices.Contains(l.known[at], shape) {
		l.hits++
		return
	}
	l.misses++
	switch {
	case !has || l.full[at]:
	case len(l.known[at]) == 4:
		l.known[at], l.full[at] = nil, true
	default:
		l.known[at] = append(l.known[at], shape)
	}
}

// split splits a shape of a machine and of the model, often the root of a class.
func (l *looks) split(t *testing.T, r *rand.Rand, m *Machine) {
	t.Helper()
	a := r.IntN(l.tree.Count() + 1)
	if r.IntN(3) > 0 {
		a = l.tree.Root(r.IntN(len(l.program.Classes)))
	}
	got, e := m.Split(a)
	if want, wantE := l.tree.Split(a); got != want || e != wantE {
		t.Fatalf("Split(%d) returns %d, %d, want %d, %d", a, got, e, want, wantE)
	}
}

// merge merges two shapes of a machine and of the model, often such with the same names.
func (l *looks) merge(t *testing.T, r *rand.Rand, m *Machine) {
	t.Helper()
	a, b := r.IntN(l.tree.Count()+1), r.IntN(l.tree.Count()+1)
	if r.IntN(4) > 0 {
		b, _ = l.tree.Find(l.tree.Class(a), l.tree.Names(a))
	}
	if got, want := m.Merge(a, b), l.tree.Merge(a, b); got != want {
		t.Fatalf("Merge(%d, %d) returns %d, want %d", a, b, got, want)
	}
}

// plenty returns a world in which nothing runs out soon.
func plenty(w api.World) api.World {
	w.Epoch = 0
	w.Fuel, w.Limit = []int{1200, 400, 400}, []int{api.MaxLimit, api.MaxLimit, api.MaxLimit}
	return w
}

// aboutObjects returns a random program that does little but look up.
func aboutObjects(t *testing.T, r *rand.Rand) api.Program {
	t.Helper()
	all := strings.Split("V = new K;V = new K;V.F = V;V.F = V;V.F = V;V = V;e = V.F;e = V.F;e = V.F;e = send V N;e = send V N;e = send V n V;yield", ";")
	kinds := map[rune]string{'V': "abd", 'K': "PPPQQQTTRSU", 'F': "xxxxxyyzw", 'N': "mmmmmmmno"}
	lines := []string{"c = 0", "h = 1", "l = 12", "a = new P", "b = new Q", "d = new R", "more = true", "while more"}
	for range 3 {
		lines = append(lines, "try")
		for range 9 {
			line := strings.Map(func(c rune) rune {
				if of := kinds[c]; of != "" {
					return rune(of[r.IntN(len(of))])
				}
				return c
			}, all[r.IntN(len(all))])
			lines = append(lines, line)
		}
		lines = append(lines, "catch e", "end")
	}
	return mainOf(t, strings.Join(lines, "; ")+"; c = c + h; more = c < l; end")
}

// P13.4, P13.5, P13.6: random programs, with and without merges and splits, from the beginning and from other images, against the model.
func TestRandomHits(t *testing.T) {
	t.Parallel()
	m := met{}
	for seed := range uint64(160) {
		p, w, r := random(t, 3000+seed)
		if seed%3 > 0 {
			p = aboutObjects(t, r)
		}
		w = plenty(w)
		s, e := source.New(p, w)
		if e != api.OK {
			t.Fatal(e)
		}
		machine := begun(t, p, w)
		if seed%5 == 2 {
			s.Run(r.IntN(200))
			machine = loaded(t, p, compiled(t, p), w, s.Image())
			m["loaded"]++
		}
		l, events := newLooks(p, info(t, p), s.Image()), len(s.Events())
		for more := true; more; {
			// Some runs have no merges and splits, some only splits, and some so many that there are no more shapes.
			switch n := r.IntN(200); {
			case seed%4 > 0 && n < 20:
				l.split(t, r, machine)
			case seed%4 == 2 && n < 40:
				l.merge(t, r, machine)
			case seed%4 == 3 && n == 199:
				for range 150 {
					l.split(t, r, machine)
				}
			}
			before := s.Image()
			more = s.Step()
			if machine.Step() != more {
				t.Fatalf("seed %d: Step does not return %t", seed, more)
			}
			l.step(before, s.Image())
			if hits, misses := machine.Hits(); hits != l.hits || misses != l.misses {
				t.Fatalf("seed %d: Hits returns %d, %d, want %d, %d after\n%s\n%s", seed, hits, misses, l.hits, l.misses, source.Text(before), lang.Print(p))
			}
		}
		if !same(machine.Image(), s.Image()) || !slices.Equal(machine.Events(), s.Events()[events:]) {
			t.Fatalf("seed %d: image\n%s, want\n%s", seed, source.Text(machine.Image()), source.Text(s.Image()))
		}
		if l.tree.Count() < api.MaxShapes && l.hits+l.misses != l.onObjects {
			t.Errorf("seed %d: %d look-ups on %d objects", seed, l.hits+l.misses, l.onObjects)
		}
		m["hits"] += l.hits
		m["misses"] += l.misses
		m["full"] += len(l.full)
		m["no shape"] += l.onObjects - l.hits - l.misses
	}
	m.has(t, 20, "loaded", "hits", "misses", "full", "no shape")
}
