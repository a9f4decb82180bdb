package heap

import (
	"strconv"

	"facsimile/api"
)

// unknown takes the place of a name that is not there.
const unknown = "?"

// Show returns what a program prints for v; classes and names are those of its classes and functions.
func (h *Heap) Show(classes []api.Class, names []string, v api.Value) string {
	switch v.Kind {
	case api.Unset:
		return "unset"
	case api.Nil:
		return "nil"
	case api.Bool:
		return strconv.FormatBool(v.N == 1)
	case api.Int:
		return strconv.Itoa(v.N)
	case api.Str:
		return v.S
	case api.Fun:
		return "<fun " + nameOf(names, v.N) + ">"
	case api.Ref:
		return "<" + h.describe(classes, names, v) + ">"
	}
	return ""
}

// describe says what the ref v denotes.
func (h *Heap) describe(classes []api.Class, names []string, v api.Value) string {
	c := h.denoted(v)
	if c == nil {
		return "none"
	}
	switch c.Kind {
	case api.Object:
		return className(classes, c.Class)
	case api.Array:
		return "array " + strconv.Itoa(len(c.Items))
	case api.Closure:
		return "closure " + nameOf(names, c.Fun)
	}
	return "weak"
}

func nameOf(names []string, n int) string {
	if n < 0 || n >= len(names) {
		return unknown
	}
	return names[n]
}

func className(classes []api.Class, n int) string {
	if n < 0 || n >= len(classes) {
		return unknown
	}
	return classes[n].Name
}
