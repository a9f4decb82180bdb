package check

import (
	"slices"

	"facsimile/api"
	"facsimile/lang"
)

// failure is an error of a program, at its place.
type failure struct {
	at  api.Place
	err api.Errno
}

// checker goes through a program: at is the place of what it checks, info what it knows of the functions before it.
type checker struct {
	program api.Program
	at      api.Place
	info    api.Info
	blocks  blocks
}

// need leaves the checker by a panic with the error, unless ok.
func (c *checker) need(ok bool, e api.Errno) {
	if !ok {
		panic(failure{c.at, e})
	}
}

func (c *checker) all() {
	p := c.program
	c.at = api.Place{Fun: -1, Line: api.MaxClasses}
	c.need(len(p.Classes) <= api.MaxClasses, api.ErrMany)
	c.at = api.Place{Fun: api.MaxFuncs}
	c.need(len(p.Funcs) <= api.MaxFuncs, api.ErrMany)
	for n := range p.Classes {
		c.class(n)
	}
	for n := range p.Funcs {
		c.function(n)
	}
	c.at = api.Place{}
	main := Func(p, "main")
	c.need(main >= 0 && len(p.Funcs[main].Params) == 0, api.ErrMain)
}

func (c *checker) class(n int) {
	class := c.program.Classes[n]
	c.at = api.Place{Fun: -1, Line: n}
	c.need(lang.Name(class.Name) && Class(c.program, class.Name) == n, api.ErrName)
	c.need(len(class.Fields) <= api.MaxItems, api.ErrMany)
	c.names(class.Fields)
	c.names(methodNames(class.Methods))
	for _, m := range class.Methods {
		f := Func(c.program, m.Func)
		c.need(f >= 0, api.ErrNone)
		c.need(len(c.program.Funcs[f].Params) > 0, api.ErrArity)
	}
}

func methodNames(methods []api.Method) []string {
	var list []string
	for _, m := range methods {
		list = append(list, m.Name)
	}
	return list
}

// names needs all of the list to be names, and none to be there twice.
func (c *checker) names(list []string) {
	seen := map[string]bool{}
	for _, s := range list {
		c.need(!seen[s] && lang.Name(s), api.ErrName)
		seen[s] = true
	}
}

func (c *checker) function(n int) {
	f := c.program.Funcs[n]
	c.at = api.Place{Fun: n}
	c.need(lang.Name(f.Name) && Func(c.program, f.Name) == n, api.ErrName)
	c.names(f.Params)
	c.need(len(f.Lines) <= api.MaxLines, api.ErrMany)
	c.lines(f.Lines)
	c.at.Line = len(f.Lines)
	c.need(len(c.blocks.open) == 0, api.ErrBlock)
	s := slots(f)
	c.need(len(s) <= api.MaxSlots, api.ErrMany)
	c.info.Slots = append(c.info.Slots, s)
	c.info.Ends = append(c.info.Ends, c.blocks.ends)
	c.info.Parent = append(c.info.Parent, c.blocks.parent)
}

func (c *checker) lines(lines []api.Line) {
	c.blocks = blocks{}
	checks := []func(api.Line){c.right, c.known, c.arity, c.block}
	for n, l := range lines {
		c.at.Line = n
		for _, check := range checks {
			check(l)
		}
	}
}

func (c *checker) right(l api.Line) { c.need(lang.Line(l) != "", api.ErrForm) }

// known needs the function or the class that a line names.
func (c *checker) known(l api.Line) {
	switch l.Op {
	case api.OpCall, api.OpBind, api.OpSpawn, api.OpFinal:
		c.need(Func(c.program, l.Name) >= 0, api.ErrNone)
	case api.OpNew:
		c.need(Class(c.program, l.Name) >= 0, api.ErrNone)
	}
}

// arity needs the function that a line names to take its arguments.
func (c *checker) arity(l api.Line) {
	switch l.Op {
	case api.OpCall, api.OpSpawn:
		c.need(len(l.Args) == c.params(l.Name), api.ErrArity)
	case api.OpBind:
		c.need(len(l.Args) <= c.params(l.Name), api.ErrArity)
	case api.OpFinal:
		c.need(c.params(l.Name) == 0, api.ErrArity)
	}
}

// params returns how many parameters a function has that is known.
func (c *checker) params(name string) int {
	return len(c.program.Funcs[Func(c.program, name)].Params)
}

func (c *checker) block(l api.Line) { c.need(c.blocks.add(l.Op), api.ErrBlock) }

// slots returns the names of the slots of a function: its parameters, and then its other variables.
func slots(f api.Func) []string {
	list := slices.Clone(f.Params)
	seen := map[string]bool{}
	for _, s := range f.Params {
		seen[s] = true
	}
	for _, l := range f.Lines {
		for _, s := range variables(l) {
			if !seen[s] {
				seen[s] = true
				list = append(list, s)
			}
		}
	}
	return list
}

// variables returns the variables of a line, in order.
func variables(l api.Line) []string {
	all := append([]string{l.A, l.B, l.C}, l.Args...)
	return slices.DeleteFunc(all, func(s string) bool { return s == "" })
}
