package value

import (
	"testing"

	"facsimile/api"
)

// P3.3: the opposite of bools and ints.
func TestUnary(t *testing.T) {
	for _, c := range []struct {
		op   int
		a, b api.Value
	}{
		{api.OpNot, no, yes},
		{api.OpNot, yes, no},
		{api.OpNeg, integer(0), integer(0)},
		{api.OpNeg, integer(1), integer(-1)},
		{api.OpNeg, integer(7), integer(-7)},
		{api.OpNeg, integer(tenTo15), integer(-tenTo15)},
		{api.OpNeg, integer(tenTo15 - 1), integer(1 - tenTo15)},
	} {
		v, fault := Unary(c.op, c.a)
		gives(t, "Unary of "+Text(c.a), v, fault, c.b)
		v, fault = Unary(c.op, c.b)
		gives(t, "Unary of "+Text(c.b), v, fault, c.a)
	}
}

// wantUnary is the fault that the chapter says.
func wantUnary(op int, a api.Value, right bool) string {
	switch {
	case a.Kind == api.Unset:
		return "unset"
	case op == api.OpNot && right && a.Kind == api.Bool, op == api.OpNeg && right && a.Kind == api.Int:
		return ""
	}
	return "type"
}

// P3.3: each operator of lines, and numbers that are none, with operands of all kinds.
func TestFaultsOfUnary(t *testing.T) {
	for _, op := range operators() {
		for _, c := range rightValues() {
			v, fault := Unary(op, c.value)
			want := wantUnary(op, c.value, true)
			if want != "" {
				fails(t, "Unary of "+c.text, v, fault, want)
			} else if fault != "" || v.Kind != c.value.Kind || !Right(v) {
				t.Errorf("Unary(%d, %+v) = %+v, fault %q", op, c.value, v, fault)
			}
		}
		for _, a := range wrongValues() {
			v, fault := Unary(op, a)
			fails(t, "Unary of a value that is not right", v, fault, wantUnary(op, a, false))
		}
	}
}

// P3.5: neg undoes itself, and so does not.
func TestUnaryUndoesItself(t *testing.T) {
	for _, op := range []int{api.OpNot, api.OpNeg} {
		for _, c := range rightValues() {
			v, fault := Unary(op, c.value)
			if fault != "" {
				continue
			}
			again, fault := Unary(op, v)
			gives(t, "Unary of Unary of "+c.text, again, fault, c.value)
			if v == c.value && v != integer(0) {
				t.Errorf("Unary(%d, %+v) is the operand", op, v)
			}
		}
	}
}
