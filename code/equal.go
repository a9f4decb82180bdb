package code

import (
	"slices"

	"facsimile/api"
)

// Equal reports whether all fields of two codes are equal.
func Equal(a, b api.Code) bool {
	return slices.EqualFunc(a.Classes, b.Classes, equalClasses) &&
		slices.Equal(a.Names, b.Names) &&
		slices.EqualFunc(a.Funcs, b.Funcs, equalFuncs)
}

func equalClasses(a, b api.Class) bool {
	return a.Name == b.Name && slices.Equal(a.Fields, b.Fields) && slices.Equal(a.Methods, b.Methods)
}

func equalFuncs(a, b api.CodeFunc) bool {
	return a.Params == b.Params && a.Slots == b.Slots &&
		slices.EqualFunc(a.Ins, b.Ins, equalInstrs) &&
		slices.Equal(a.Handlers, b.Handlers)
}

func equalInstrs(a, b api.Instr) bool {
	return a.Op == b.Op && a.A == b.A && a.B == b.B && a.C == b.C && a.K == b.K &&
		slices.Equal(a.Args, b.Args) && slices.Equal(a.Lines, b.Lines)
}
