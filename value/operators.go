package value

import "facsimile/api"

// unary and binary compute the result of an operator; a binary one may find a fault instead.
type (
	unary  func(a api.Value) api.Value
	binary func(a, b api.Value) (api.Value, string)
)

// unaries returns the operators that the operand has.
func unaries(a api.Value) map[int]unary {
	if !Right(a) {
		return nil
	}
	switch a.Kind {
	case api.Bool:
		return map[int]unary{api.OpNot: func(a api.Value) api.Value { return truth(a.N == 0) }}
	case api.Int:
		// The bounds of ints are the same on both sides of 0.
		return map[int]unary{api.OpNeg: func(a api.Value) api.Value { return number(-a.N) }}
	}
	return nil
}

// binaries returns the operators that the operands have.
func binaries(a, b api.Value) map[int]binary {
	if !Right(a) || !Right(b) {
		return nil
	}
	if a.Kind == b.Kind {
		switch a.Kind {
		case api.Bool:
			return ofBools()
		case api.Int:
			return ofInts()
		case api.Str:
			return ofStrings()
		}
	}
	return map[int]binary{api.OpEqual: equal}
}

func ofBools() map[int]binary {
	return map[int]binary{
		api.OpAnd:   relation(func(a, b api.Value) bool { return a.N == 1 && b.N == 1 }),
		api.OpOr:    relation(func(a, b api.Value) bool { return a.N == 1 || b.N == 1 }),
		api.OpEqual: equal,
	}
}

func ofInts() map[int]binary {
	return map[int]binary{
		api.OpAdd:   arithmetic{noFault, func(a, b int) int { return a + b }}.operator(),
		api.OpSub:   arithmetic{noFault, func(a, b int) int { return a - b }}.operator(),
		api.OpMul:   arithmetic{tooLarge, func(a, b int) int { return a * b }}.operator(),
		api.OpDiv:   arithmetic{byZero, func(a, b int) int { return a / b }}.operator(),
		api.OpMod:   arithmetic{byZero, func(a, b int) int { return a % b }}.operator(),
		api.OpLess:  relation(func(a, b api.Value) bool { return a.N < b.N }),
		api.OpEqual: equal,
	}
}

func ofStrings() map[int]binary {
	return map[int]binary{
		api.OpLess:  relation(func(a, b api.Value) bool { return a.S < b.S }),
		api.OpEqual: equal,
		api.OpCat:   join,
	}
}

// relation makes an operator of what holds of two operands, or does not.
func relation(holds func(a, b api.Value) bool) binary {
	return func(a, b api.Value) (api.Value, string) { return truth(holds(a, b)), "" }
}

func equal(a, b api.Value) (api.Value, string) { return truth(a == b), "" }

// join computes b after a.
func join(a, b api.Value) (api.Value, string) {
	if len(a.S)+len(b.S) > api.MaxString {
		return api.Value{}, faultRange
	}
	return api.Value{Kind: api.Str, S: a.S + b.S}, ""
}

// arithmetic is an operator of ints: fault says what is wrong with the operands; where this is nothing, an int holds the result, though the bounds of the language may not.
type arithmetic struct {
	fault  func(a, b int) string
	result func(a, b int) int
}

func (o arithmetic) operator() binary {
	return func(a, b api.Value) (api.Value, string) {
		if f := o.fault(a.N, b.N); f != "" {
			return api.Value{}, f
		}
		v := number(o.result(a.N, b.N))
		if !Right(v) {
			return api.Value{}, faultRange
		}
		return v, ""
	}
}

func noFault(a, b int) string { return "" }

func byZero(a, b int) string {
	if b == 0 {
		return faultZero
	}
	return ""
}

// tooLarge looks at the factors, as an int may not hold the product.
func tooLarge(a, b int) string {
	if b != 0 && size(a) > api.MaxInt/size(b) {
		return faultRange
	}
	return ""
}

func size(n int) int { return max(n, -n) }

func number(n int) api.Value { return api.Value{Kind: api.Int, N: n} }

func truth(yes bool) api.Value {
	if yes {
		return api.Value{Kind: api.Bool, N: 1}
	}
	return api.Value{Kind: api.Bool}
}
