package code

import (
	"slices"
	"strconv"
	"strings"

	"facsimile/api"
	"facsimile/value"
)

// writer collects the lines of a text.
type writer struct{ strings.Builder }

// line writes a line: a word, and the parts of some lists.
func (w *writer) line(word string, lists ...[]string) {
	parts := append([]string{word}, slices.Concat(lists...)...)
	w.WriteString(strings.Join(parts, " "))
	w.WriteByte('\n')
}

// Text returns all that the code has, in lines.
func Text(c api.Code) string {
	var w writer
	for _, class := range c.Classes {
		w.line("class", []string{class.Name}, class.Fields)
		for _, m := range class.Methods {
			w.line("method", []string{m.Name, m.Func})
		}
	}
	for number, f := range c.Funcs {
		w.line("func", nameOf(c, number), decimals(f.Params, f.Slots))
		for _, ins := range f.Ins {
			w.line("ins", decimals(ins.Op, ins.A, ins.B, ins.C), []string{value.Text(ins.K)}, decimals(len(ins.Args)), decimals(ins.Args...), decimals(ins.Lines...))
		}
		for _, h := range f.Handlers {
			w.line("on", decimals(h.From, h.To, h.Target, h.Slot, bit(h.Finally)))
		}
	}
	return w.String()
}

// nameOf returns the name of a function as a part of a line: none, if there is none.
func nameOf(c api.Code, number int) []string {
	if number >= len(c.Names) {
		return nil
	}
	return []string{c.Names[number]}
}

func decimals(numbers ...int) []string { return each(numbers, strconv.Itoa) }

func bit(b bool) int {
	if b {
		return 1
	}
	return 0
}
