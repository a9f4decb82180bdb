package shape

import (
	"math/rand"
	"slices"
	"strconv"
	"strings"
	"testing"

	"facsimile/api"
)

// model is a second tree, which keeps everything that was ever there, and looks through all of it.
type model struct {
	shapes []*node
	roots  []*node
	ways   []*way
}

type node struct {
	number, class int
	names         string // each with a comma after it
	alias         *node
}

type way struct {
	from *node
	name string
	to   *node
}

func (n *node) canonical() *node {
	if n.alias == nil {
		return n
	}
	return n.alias.canonical()
}

func newModel(fields []string) *model {
	m := &model{}
	for class, f := range fields {
		m.roots = append(m.roots, m.grow(class, joined(strings.Fields(f))))
	}
	return m
}

func joined(names []string) string {
	var s string
	for _, name := range names {
		s += name + ","
	}
	return s
}

// has tells whether one of the names between the commas is this one.
func has(names, name string) bool { return strings.Contains(","+names, ","+name+",") }

func (m *model) grow(class int, names string) *node {
	n := &node{number: len(m.shapes), class: class, names: names}
	m.shapes = append(m.shapes, n)
	return n
}

func (m *model) canon(shape int) *node {
	for _, n := range m.shapes {
		if n.number == shape {
			return n.canonical()
		}
	}
	return nil
}

func (m *model) add(shape int, name string) (int, api.Errno) {
	n := m.canon(shape)
	switch {
	case n == nil:
		return 0, api.ErrArg
	case name == "" || has(n.names, name):
		return 0, api.ErrName
	}
	for _, w := range m.ways {
		if w.from == n && w.name == name {
			return w.to.canonical().number, api.OK
		}
	}
	if strings.Count(n.names, ",") == 64 || len(m.shapes) == 200 {
		return 0, api.ErrMany
	}
	to := m.grow(n.class, n.names+name+",")
	m.ways = append(m.ways, &way{n, name, to})
	return to.number, api.OK
}

func (m *model) find(class int, names []string) (int, bool) {
	for _, n := range m.shapes {
		if n.canonical() == n && n.class == class && n.names == joined(names) {
			return n.number, true
		}
	}
	return 0, false
}

func (m *model) make(class int, names []string) (int, api.Errno) {
	if class < 0 || class >= len(m.roots) || len(names) > 64 {
		return 0, api.ErrArg
	}
	for n, name := range names {
		if name == "" || has(joined(names[n+1:]), name) {
			return 0, api.ErrArg
		}
	}
	if root := m.roots[class].canonical(); root.names == joined(names) {
		return root.number, api.OK
	}
	if shape, ok := m.find(class, names); ok {
		return shape, api.OK
	}
	if len(m.shapes) == 200 {
		return 0, api.ErrMany
	}
	return m.grow(class, joined(names)).number, api.OK
}

func (m *model) merge(a, b int) api.Errno {
	x, y := m.canon(a), m.canon(b)
	if x == nil || y == nil || x.class != y.class || x.names != y.names {
		return api.ErrArg
	}
	if x != y {
		y.alias = x
	}
	return api.OK
}

func (m *model) split(a int) (int, api.Errno) {
	n := m.canon(a)
	switch {
	case n == nil:
		return 0, api.ErrArg
	case len(m.shapes) == 200:
		return 0, api.ErrMany
	}
	to := m.grow(n.class, n.names)
	for _, w := range m.ways {
		if w.to.canonical() == n {
			w.to = to
		}
	}
	for class, root := range m.roots {
		if root.canonical() == n {
			m.roots[class] = to
		}
	}
	return to.number, api.OK
}

func (m *model) text() string {
	text := "roots"
	for _, root := range m.roots {
		text += " " + strconv.Itoa(root.number)
	}
	for _, n := range m.shapes {
		text += "\n" + strconv.Itoa(n.number) + " " + strconv.Itoa(n.class) + strings.ReplaceAll(" "+n.names, ",", " ")
		if n.alias != nil {
			text += "= " + strconv.Itoa(n.alias.number)
			continue
		}
		text += ">"
		var ways []string
		for _, w := range m.ways {
			if w.from == n {
				ways = append(ways, " "+w.name+":"+strconv.Itoa(w.to.number))
			}
		}
		slices.Sort(ways)
		text += strings.Join(ways, "")
	}
	return text + "\n"
}

// pair is a tree with its model, and a source of arguments.
type pair struct {
	t *testing.T
	x *Tree
	m *model
	r *rand.Rand
}

// shape returns a number of a shape, and sometimes one that no shape has.
func (p *pair) shape() int { return p.r.Intn(p.x.Count()+2) - 1 }

// like returns a shape of the same class with the same names as another one, if it finds one soon.
func (p *pair) like(shape int) int {
	for range 50 {
		other := p.shape()
		if p.x.Class(other) == p.x.Class(shape) && slices.Equal(p.x.Names(other), p.x.Names(shape)) {
			return other
		}
	}
	return p.shape()
}

func (p *pair) name() string { return []string{"a", "b", "c", "d", ""}[p.r.Intn(45)/10] }

func (p *pair) names() []string {
	var names []string
	for range p.r.Intn(4) {
		names = append(names, p.name())
	}
	return names
}

// call makes the same call on both.
func (p *pair) call() {
	var what string
	var got, want int
	var e, wantError api.Errno
	switch p.r.Intn(8) {
	case 0, 1, 2:
		shape, name := p.shape(), p.name()
		what = "Add(" + strconv.Itoa(shape) + ", " + name + ")"
		got, e = p.x.Add(shape, name)
		want, wantError = p.m.add(shape, name)
		p.again(shape, name, got, e)
	case 3:
		class, names := p.r.Intn(5)-1, p.names()
		what = "Make(" + strconv.Itoa(class) + ", " + strings.Join(names, " ") + ")"
		got, e = p.x.Make(class, names)
		want, wantError = p.m.make(class, names)
	case 4, 5:
		a := p.shape()
		what = "Split(" + strconv.Itoa(a) + ")"
		got, e = p.x.Split(a)
		want, wantError = p.m.split(a)
	default:
		a := p.shape()
		b := p.like(a)
		what = "Merge(" + strconv.Itoa(a) + ", " + strconv.Itoa(b) + ")"
		e, wantError = p.x.Merge(a, b), p.m.merge(a, b)
	}
	if got != want || e != wantError {
		p.t.Errorf("%s = %d, %d, want %d, %d", what, got, e, want, wantError)
	}
	if p.x.Text() != p.m.text() {
		p.t.Fatalf("after %s the text is\n%swant\n%s", what, p.x.Text(), p.m.text())
	}
}

// again checks what P8.8 says of a shape that Add returned.
func (p *pair) again(shape int, name string, made int, e api.Errno) {
	if e != api.OK {
		return
	}
	if want := append(p.x.Names(shape), name); !slices.Equal(p.x.Names(made), want) {
		p.t.Errorf("Add(%d, %s) has %q, want %q", shape, name, p.x.Names(made), want)
	}
	if p.x.Class(made) != p.x.Class(shape) || p.x.Canon(made) != made {
		p.t.Errorf("Add(%d, %s) has the class %d, and is %d", shape, name, p.x.Class(made), p.x.Canon(made))
	}
	gives(p.t, made)(p.x.Add(shape, name))
}

// look checks everything that can be asked for.
func (p *pair) look() {
	if p.x.Count() != len(p.m.shapes) {
		p.t.Errorf("%d shapes, want %d", p.x.Count(), len(p.m.shapes))
	}
	for class, root := range p.m.roots {
		if p.x.Root(class) != root.canonical().number {
			p.t.Errorf("Root(%d) = %d, want %d", class, p.x.Root(class), root.canonical().number)
		}
	}
	for shape, n := range p.m.shapes {
		names := strings.FieldsFunc(n.names, func(r rune) bool { return r == ',' })
		canon := p.x.Canon(shape)
		if canon != n.canonical().number || p.x.Canon(canon) != canon {
			p.t.Errorf("Canon(%d) = %d, want %d", shape, canon, n.canonical().number)
		}
		if p.x.Class(shape) != n.class || p.x.Class(canon) != n.class || !slices.Equal(p.x.Names(shape), names) || !slices.Equal(p.x.Names(canon), names) {
			p.t.Errorf("Class and Names of %d are %d and %q, want %d and %q", shape, p.x.Class(shape), p.x.Names(shape), n.class, names)
		}
		for _, name := range []string{"a", "b", "c", "d", ""} {
			slot, ok := p.x.Slot(shape, name)
			if want := slices.Index(names, name); slot != max(want, 0) || ok != (want >= 0) {
				p.t.Errorf("Slot(%d, %s) = %d, %t, want %d", shape, name, slot, ok, want)
			}
		}
		got, ok := p.x.Find(n.class, names)
		if want, wantOk := p.m.find(n.class, names); got != want || ok != wantOk {
			p.t.Errorf("Find(%d, %q) = %d, %t, want %d, %t", n.class, names, got, ok, want, wantOk)
		}
	}
}

// P8.1 to P8.8: random calls give what they give on the model.
func TestRandomCalls(t *testing.T) {
	full := 0
	for seed := range int64(60) {
		fields := []string{"a", "", "b a"}[:1+seed%3]
		p := &pair{t, tree(fields...), newModel(fields), rand.New(rand.NewSource(seed))}
		for n := range 150 + 6*seed {
			p.call()
			if n%10 == 0 {
				p.look()
			}
		}
		p.look()
		if p.x.Count() == api.MaxShapes {
			full++
		}
	}
	if full == 0 || full == 60 {
		t.Errorf("%d of 60 trees have all shapes", full)
	}
}
