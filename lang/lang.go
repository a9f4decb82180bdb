// Package lang is layer 1: it reads and writes programs as texts (see shared/doc/01-lang.md).
package lang

import (
	"slices"
	"strings"

	"facsimile/api"
)

// maxList is the limit of each list that one line or one class has: fields, methods, parameters and arguments.
const maxList = 8

// Name reports whether s is a name.
func Name(s string) bool { return shaped(s) && !words()[s] }

// ReadLine returns the right line whose text is s, and whether there is one.
func ReadLine(s string) (l api.Line, ok bool) {
	// A right line is much shorter than a program may be: what is longer need not be read.
	if len(s) > api.MaxText {
		return api.Line{}, false
	}
	defer func() {
		if recover() != nil {
			l, ok = api.Line{}, false
		}
	}()
	return newReader().read(s), true
}

// Line returns the text of a right line, and the empty string for others.
func Line(l api.Line) string {
	// A line is right if it is what its text says: so the rules of a right line stand in one place, the reader.
	s := lineText(l)
	got, ok := ReadLine(s)
	if !ok || !equalLines(got, l) {
		return ""
	}
	return s
}

// Parse returns the program whose text is s, or the offset of its first line with an error, and this error.
func Parse(s string) (p api.Program, at int, e api.Errno) {
	if len(s) > api.MaxText {
		return api.Program{}, api.MaxText, api.ErrMany
	}
	r := parser{reader: newReader()}
	defer func() {
		if failed, ok := recover().(api.Errno); ok {
			p, at, e = api.Program{}, r.at, failed
		}
	}()
	for r.at < len(s) {
		line, _, ended := strings.Cut(s[r.at:], "\n")
		need(ended, api.ErrToken)
		r.next(line)
		r.at += len(line) + 1
	}
	need(!r.inside, api.ErrToken)
	return r.program, 0, api.OK
}

// Print returns the text of a right program, and the empty string for others.
func Print(p api.Program) string {
	// As for a line: a program is right if it is what its text says.
	s := programText(p)
	got, _, e := Parse(s)
	if e != api.OK || !Equal(got, p) {
		return ""
	}
	return s
}

// Equal reports whether all fields of a and b are equal.
func Equal(a, b api.Program) bool {
	return slices.EqualFunc(a.Classes, b.Classes, equalClasses) && slices.EqualFunc(a.Funcs, b.Funcs, equalFuncs)
}

func equalClasses(a, b api.Class) bool {
	return a.Name == b.Name && slices.Equal(a.Fields, b.Fields) && slices.Equal(a.Methods, b.Methods)
}

func equalFuncs(a, b api.Func) bool {
	return a.Name == b.Name && slices.Equal(a.Params, b.Params) && slices.EqualFunc(a.Lines, b.Lines, equalLines)
}

func equalLines(a, b api.Line) bool {
	return a.Op == b.Op && a.A == b.A && a.B == b.B && a.C == b.C && a.Name == b.Name &&
		a.Const == b.Const && slices.Equal(a.Args, b.Args)
}
