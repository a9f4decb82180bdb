package source

import (
	"strconv"
	"strings"

	"facsimile/api"
	"facsimile/value"
)

// reader reads an image; rest is what is left of its text. It takes any text for one, and makes something of it: Read compares the texts.
type reader struct {
	rest  string
	image api.Image
}

// Read returns the image that has this text, and whether there is one.
func Read(s string) (api.Image, bool) {
	r := reader{rest: s}
	for r.rest != "" {
		r.line()
	}
	if Text(r.image) != s {
		return api.Image{}, false
	}
	return r.image, true
}

func (r *reader) line() {
	m := &r.image
	switch r.take(strings.IndexAny(r.rest, " \n")) {
	case "image":
		r.numbers(&m.Now, &m.Steps, &m.Next, &m.Born, &m.In, &m.Clock, &m.Choice)
	case "fuel":
		m.Fuel = r.list()
	case "used":
		m.Used = r.list()
	case "cell":
		m.Cells = append(m.Cells, r.cell())
	case "final":
		var f api.Final
		r.numbers(&f.Cell, &f.Fun, &f.Tenant)
		m.Finals = append(m.Finals, f)
	case "thread":
		var t api.Thread
		r.numbers(&t.Id, &t.Tenant)
		m.Threads = append(m.Threads, t)
	case "frame":
		r.frame()
	case "pend":
		r.pending()
	default:
		r.rest = ""
	}
	r.take(len("\n"))
}

func (r *reader) cell() api.Entry {
	var e api.Entry
	c := &e.Cell
	var names int
	r.numbers(&e.Id, &c.Kind, &c.Class, &c.Fun, &c.Tenant, &names)
	for len(c.Names) < names && r.more() {
		c.Names = append(c.Names, r.word())
	}
	c.Items = r.values()
	return e
}

// frame reads a frame of the last thread.
func (r *reader) frame() {
	if t := last(r.image.Threads); t != nil {
		var f api.Frame
		r.numbers(&f.Fun, &f.Line)
		f.Vars = r.values()
		t.Frames = append(t.Frames, f)
	}
}

// pending reads what is pending in the last frame.
func (r *reader) pending() {
	t := last(r.image.Threads)
	if t == nil {
		return
	}
	if f := last(t.Frames); f != nil {
		var d api.Pending
		r.numbers(&d.Kind, &d.Place.Fun, &d.Place.Line)
		d.Value = r.value()
		f.Pend = append(f.Pend, d)
	}
}

// last returns the last element of a list, or nil.
func last[T any](list []T) *T {
	if len(list) == 0 {
		return nil
	}
	return &list[len(list)-1]
}

// more reports whether there is a further part in the line.
func (r *reader) more() bool { return strings.HasPrefix(r.rest, " ") }

func (r *reader) numbers(to ...*int) {
	for _, n := range to {
		*n = r.number()
	}
}

func (r *reader) list() []int {
	var l []int
	for r.more() {
		l = append(l, r.number())
	}
	return l
}

func (r *reader) values() []api.Value {
	var l []api.Value
	for r.more() {
		l = append(l, r.value())
	}
	return l
}

func (r *reader) value() api.Value {
	v, _ := value.Read(r.word())
	return v
}

// word reads a blank and a word.
func (r *reader) word() string {
	n := r.number()
	r.take(len(":"))
	return r.take(n)
}

// number reads a blank and a number.
func (r *reader) number() int {
	r.take(len(" "))
	digits := len(r.rest) - len(strings.TrimLeft(r.rest, "-0123456789"))
	n, _ := strconv.Atoi(r.take(digits))
	return n
}

// take returns the next n bytes, as far as there are so many.
func (r *reader) take(n int) string {
	n = min(max(n, 0), len(r.rest))
	taken := r.rest[:n]
	r.rest = r.rest[n:]
	return taken
}
