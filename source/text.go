package source

import (
	"slices"
	"strconv"
	"strings"

	"facsimile/api"
	"facsimile/value"
)

// Text returns the text of an image, or the empty string, if a value in it is not right.
func Text(m api.Image) string {
	var text strings.Builder
	right := true
	write := func(name string, numbers []int, words []string, values []api.Value) {
		for _, v := range values {
			words = append(words, value.Text(v))
			right = right && value.Right(v)
		}
		text.WriteString(lineOf(name, numbers, words))
		text.WriteByte('\n')
	}
	write("image", []int{m.Now, m.Steps, m.Next, m.Born, m.In, m.Clock, m.Choice}, nil, nil)
	write("fuel", m.Fuel, nil, nil)
	write("used", m.Used, nil, nil)
	for _, e := range m.Cells {
		c := e.Cell
		write("cell", []int{e.Id, c.Kind, c.Class, c.Fun, c.Tenant, len(c.Names)}, slices.Clone(c.Names), c.Items)
	}
	for _, f := range m.Finals {
		write("final", []int{f.Cell, f.Fun, f.Tenant}, nil, nil)
	}
	for _, t := range m.Threads {
		write("thread", []int{t.Id, t.Tenant}, nil, nil)
		for _, f := range t.Frames {
			write("frame", []int{f.Fun, f.Line}, nil, f.Vars)
			for _, d := range f.Pend {
				write("pend", []int{d.Kind, d.Place.Fun, d.Place.Line}, nil, []api.Value{d.Value})
			}
		}
	}
	if !right {
		return ""
	}
	return text.String()
}

// EventText returns the text of an event.
func EventText(e api.Event) string {
	return lineOf("event", []int{e.Kind, e.Thread, e.Tenant, e.Place.Fun, e.Place.Line}, []string{e.Text})
}

// lineOf returns a line without its end: a name, numbers, and words that can have any bytes.
func lineOf(name string, numbers []int, words []string) string {
	var line strings.Builder
	line.WriteString(name)
	for _, n := range numbers {
		line.WriteByte(' ')
		line.WriteString(strconv.Itoa(n))
	}
	for _, w := range words {
		line.WriteByte(' ')
		line.WriteString(strconv.Itoa(len(w)))
		line.WriteByte(':')
		line.WriteString(w)
	}
	return line.String()
}

// decimals returns numbers with blanks between them.
func decimals(numbers []int) string {
	var parts []string
	for _, n := range numbers {
		parts = append(parts, strconv.Itoa(n))
	}
	return strings.Join(parts, " ")
}
