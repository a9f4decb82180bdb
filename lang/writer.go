package lang

import (
	"strings"

	"facsimile/api"
)

// lineText returns the text that a line has if it is right.
func lineText(l api.Line) string {
	if l.Op < 0 || l.Op >= len(forms) {
		return ""
	}
	var b strings.Builder
	form := forms[l.Op]
	for n := range len(form) {
		b.WriteString(fieldText(l, form[n]))
	}
	return b.String()
}

// fieldText returns what stands in the text of a line for a byte of its form.
func fieldText(l api.Line, c byte) string {
	switch c {
	case 'A':
		return l.A
	case 'B':
		return l.B
	case 'C':
		return l.C
	case 'N':
		return l.Name
	case 'L', 'I':
		return literal(l.Const)
	case 'X':
		return after("", l.Args)
	}
	return string(c)
}

// after returns first and then the others, each with a blank before it.
func after(first string, others []string) string {
	var b strings.Builder
	b.WriteString(first)
	for _, s := range others {
		b.WriteByte(' ')
		b.WriteString(s)
	}
	return b.String()
}

// programText returns the text that a program has if it is right.
func programText(p api.Program) string {
	var b strings.Builder
	for _, c := range p.Classes {
		b.WriteString(after("class "+c.Name, c.Fields) + "\n")
		for _, m := range c.Methods {
			b.WriteString("method " + m.Name + " " + m.Func + "\n")
		}
	}
	for _, f := range p.Funcs {
		b.WriteString(after("func "+f.Name, f.Params) + "\n")
		for _, l := range f.Lines {
			b.WriteString(lineText(l) + "\n")
		}
		b.WriteString("endfunc\n")
	}
	return b.String()
}
