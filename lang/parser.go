package lang

import (
	"slices"
	"strings"

	"facsimile/api"
)

// parser reads the lines of a program: at is the offset of the line that it reads, inside says whether this is inside of a function.
type parser struct {
	*reader
	program api.Program
	at      int
	inside  bool
}

// outer says how a line outside of a function is read, by its first word.
func outer() map[string]func(*parser, []string) {
	return map[string]func(*parser, []string){
		"class":  (*parser).class,
		"method": (*parser).method,
		"func":   (*parser).function,
	}
}

// next reads the next line, without its byte 10.
func (p *parser) next(line string) {
	if p.inside {
		p.inner(line)
		return
	}
	parts := strings.Split(line, " ")
	read, known := outer()[parts[0]]
	need(known && !slices.ContainsFunc(parts[1:], p.noName), api.ErrToken)
	read(p, parts[1:])
}

func (p *parser) noName(s string) bool { return !p.isName(s) }

func (p *parser) class(names []string) {
	need(len(p.program.Funcs) == 0 && len(names) > 0, api.ErrToken)
	need(len(p.program.Classes) < api.MaxClasses && len(names)-1 <= maxList, api.ErrMany)
	p.program.Classes = append(p.program.Classes, api.Class{Name: names[0], Fields: list(names[1:])})
}

func (p *parser) method(names []string) {
	// Before the first function there are only classes and methods.
	need(len(p.program.Funcs) == 0 && len(p.program.Classes) > 0 && len(names) == 2, api.ErrToken)
	c := &p.program.Classes[len(p.program.Classes)-1]
	need(len(c.Methods) < maxList, api.ErrMany)
	c.Methods = append(c.Methods, api.Method{Name: names[0], Func: names[1]})
}

func (p *parser) function(names []string) {
	need(len(names) > 0, api.ErrToken)
	need(len(p.program.Funcs) < api.MaxFuncs && len(names)-1 <= maxList, api.ErrMany)
	p.program.Funcs = append(p.program.Funcs, api.Func{Name: names[0], Params: list(names[1:])})
	p.inside = true
}

// inner reads a line inside of a function.
func (p *parser) inner(line string) {
	if line == "endfunc" {
		p.inside = false
		return
	}
	l := p.read(line)
	f := &p.program.Funcs[len(p.program.Funcs)-1]
	need(len(f.Lines) < api.MaxLines, api.ErrMany)
	f.Lines = append(f.Lines, l)
}

// list returns a copy, which is nil if there are no names.
func list(names []string) []string { return append([]string(nil), names...) }
