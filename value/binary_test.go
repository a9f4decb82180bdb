package value

import (
	"math/big"
	"math/rand/v2"
	"strings"
	"testing"

	"facsimile/api"
)

// result is what Binary returns.
type result struct {
	value api.Value
	fault string
}

func binaryOf(op int, a, b api.Value) result {
	v, fault := Binary(op, a, b)
	return result{v, fault}
}

func boolean(b bool) result {
	if b {
		return result{yes, ""}
	}
	return result{no, ""}
}

// wantBinary is what the chapter says of any operands; right says that both are right.
func wantBinary(op int, a, b api.Value, right bool) result {
	of := func(kind int) bool { return right && a.Kind == kind && b.Kind == kind }
	if a.Kind == api.Unset || b.Kind == api.Unset {
		return result{fault: "unset"}
	}
	switch op {
	case api.OpAdd, api.OpSub, api.OpMul, api.OpDiv, api.OpMod:
		if of(api.Int) {
			return wantNumber(op, a.N, b.N)
		}
	case api.OpLess:
		if of(api.Int) {
			return boolean(big.NewInt(int64(a.N)).Cmp(big.NewInt(int64(b.N))) < 0)
		}
		if of(api.Str) {
			return boolean(before(a.S, b.S))
		}
	case api.OpEqual:
		if right {
			return boolean(a.Kind == b.Kind && a.N == b.N && a.S == b.S)
		}
	case api.OpAnd, api.OpOr:
		if of(api.Bool) {
			return boolean(a.N+b.N >= map[int]int{api.OpAnd: 2, api.OpOr: 1}[op])
		}
	case api.OpCat:
		if of(api.Str) && len(a.S)+len(b.S) > 200 {
			return result{fault: "range"}
		} else if of(api.Str) {
			return result{str(strings.Join([]string{a.S, b.S}, "")), ""}
		}
	}
	return result{fault: "type"}
}

// wantNumber computes with numbers of any size.
func wantNumber(op, a, b int) result {
	x, y, z := big.NewInt(int64(a)), big.NewInt(int64(b)), new(big.Int)
	switch op {
	case api.OpAdd:
		z.Add(x, y)
	case api.OpSub:
		z.Sub(x, y)
	case api.OpMul:
		z.Mul(x, y)
	case api.OpDiv, api.OpMod:
		if b == 0 {
			return result{fault: "zero"}
		}
		rest := new(big.Int)
		z.QuoRem(x, y, rest)
		if op == api.OpMod {
			z = rest
		}
	}
	if z.CmpAbs(big.NewInt(tenTo15)) > 0 {
		return result{fault: "range"}
	}
	return result{integer(int(z.Int64())), ""}
}

// before compares strings byte by byte.
func before(a, b string) bool {
	for n := range len(a) {
		if n == len(b) || a[n] > b[n] {
			return false
		}
		if a[n] < b[n] {
			return true
		}
	}
	return len(a) < len(b)
}

// The examples of the chapter, and others of each operator.
func TestBinary(t *testing.T) {
	for _, c := range []struct {
		op   int
		a, b api.Value
		want result
	}{
		{api.OpAdd, integer(tenTo15), integer(1), result{fault: "range"}},
		{api.OpAdd, integer(2), integer(3), result{integer(5), ""}},
		{api.OpDiv, integer(-7), integer(2), result{integer(-3), ""}},
		{api.OpMod, integer(-7), integer(2), result{integer(-1), ""}},
		{api.OpDiv, integer(1), integer(0), result{fault: "zero"}},
		{api.OpMul, integer(100 * million), integer(100 * million), result{fault: "range"}},
		{api.OpLess, str("a"), str("ab"), result{yes, ""}},
		{api.OpLess, integer(1), str("a"), result{fault: "type"}},
		{api.OpEqual, null, no, result{no, ""}},
		{api.OpEqual, unset, integer(1), result{fault: "unset"}},

		{api.OpAdd, integer(tenTo15 - 1), integer(1), result{integer(tenTo15), ""}},
		{api.OpAdd, integer(-tenTo15), integer(-1), result{fault: "range"}},
		{api.OpAdd, integer(tenTo15), integer(-tenTo15), result{integer(0), ""}},
		{api.OpSub, integer(2), integer(3), result{integer(-1), ""}},
		{api.OpSub, integer(-tenTo15), integer(1), result{fault: "range"}},
		{api.OpSub, integer(tenTo15), integer(-1), result{fault: "range"}},
		{api.OpSub, integer(1 - tenTo15), integer(1), result{integer(-tenTo15), ""}},
		{api.OpMul, integer(-6), integer(7), result{integer(-42), ""}},
		{api.OpMul, integer(-6), integer(-7), result{integer(42), ""}},
		{api.OpMul, integer(0), integer(-tenTo15), result{integer(0), ""}},
		{api.OpMul, integer(tenTo15), integer(0), result{integer(0), ""}},
		{api.OpMul, integer(million), integer(1000 * million), result{integer(tenTo15), ""}},
		{api.OpMul, integer(-million), integer(1000 * million), result{integer(-tenTo15), ""}},
		{api.OpMul, integer(million + 1), integer(1000 * million), result{fault: "range"}},
		{api.OpMul, integer(million), integer(-1000*million - 1), result{fault: "range"}},
		// In an int, the first two products are 0, and the third, of the factors of 2^64 + 1, is 1.
		{api.OpMul, integer(1 << 32), integer(1 << 32), result{fault: "range"}},
		{api.OpMul, integer(1 << 40), integer(1 << 24), result{fault: "range"}},
		{api.OpMul, integer(274177), integer(67280421310721), result{fault: "range"}},
		{api.OpMul, integer(tenTo15), integer(tenTo15), result{fault: "range"}},
		{api.OpMul, integer(-tenTo15), integer(-1), result{integer(tenTo15), ""}},
		{api.OpDiv, integer(7), integer(2), result{integer(3), ""}},
		{api.OpDiv, integer(7), integer(-2), result{integer(-3), ""}},
		{api.OpDiv, integer(-7), integer(-2), result{integer(3), ""}},
		{api.OpDiv, integer(-1), integer(2), result{integer(0), ""}},
		{api.OpDiv, integer(-tenTo15), integer(-1), result{integer(tenTo15), ""}},
		{api.OpDiv, integer(0), integer(0), result{fault: "zero"}},
		{api.OpMod, integer(7), integer(2), result{integer(1), ""}},
		{api.OpMod, integer(7), integer(-2), result{integer(1), ""}},
		{api.OpMod, integer(-7), integer(-2), result{integer(-1), ""}},
		{api.OpMod, integer(-6), integer(2), result{integer(0), ""}},
		{api.OpMod, integer(0), integer(0), result{fault: "zero"}},
		{api.OpMod, integer(1), integer(tenTo15), result{integer(1), ""}},
		{api.OpLess, integer(-1), integer(0), result{yes, ""}},
		{api.OpLess, integer(1), integer(1), result{no, ""}},
		{api.OpLess, integer(10), integer(9), result{no, ""}},
		{api.OpLess, str("10"), str("9"), result{yes, ""}},
		{api.OpLess, str("Z"), str("a"), result{yes, ""}},
		{api.OpLess, str("ab"), str("a"), result{no, ""}},
		{api.OpLess, str(""), str(" "), result{yes, ""}},
		{api.OpLess, str(""), str(""), result{no, ""}},
		{api.OpLess, no, yes, result{fault: "type"}},
		{api.OpLess, cell(1), cell(2), result{fault: "type"}},
		{api.OpEqual, null, null, result{yes, ""}},
		{api.OpEqual, integer(1), yes, result{no, ""}},
		{api.OpEqual, cell(1), integer(1), result{no, ""}},
		{api.OpEqual, cell(1), cell(1), result{yes, ""}},
		{api.OpEqual, cell(1), cell(2), result{no, ""}},
		{api.OpEqual, function(1), cell(1), result{no, ""}},
		{api.OpEqual, function(2), function(2), result{yes, ""}},
		{api.OpEqual, str("1"), integer(1), result{no, ""}},
		{api.OpEqual, str("a"), str("a"), result{yes, ""}},
		{api.OpEqual, unset, unset, result{fault: "unset"}},
		{api.OpAnd, yes, yes, result{yes, ""}},
		{api.OpAnd, yes, no, result{no, ""}},
		{api.OpAnd, no, integer(1), result{fault: "type"}},
		{api.OpOr, no, yes, result{yes, ""}},
		{api.OpOr, no, no, result{no, ""}},
		{api.OpOr, yes, null, result{fault: "type"}},
		{api.OpCat, str("ab"), str("cd"), result{str("abcd"), ""}},
		{api.OpCat, str(""), str(""), result{str(""), ""}},
		{api.OpCat, str("it"), str("'s"), result{str("it's"), ""}},
		{api.OpCat, str("a"), integer(1), result{fault: "type"}},
		{api.OpCat, str(strings.Repeat("a", 100)), str(strings.Repeat("b", 100)), result{str(strings.Repeat("a", 100) + strings.Repeat("b", 100)), ""}},
		{api.OpCat, str(strings.Repeat("a", 100)), str(strings.Repeat("b", 101)), result{fault: "range"}},
		{api.OpCat, str(strings.Repeat("'", 200)), str(""), result{str(strings.Repeat("'", 200)), ""}},
		{api.OpCat, str(""), str(strings.Repeat("a", 200)), result{str(strings.Repeat("a", 200)), ""}},
		{api.OpCat, str("a"), str(strings.Repeat("a", 200)), result{fault: "range"}},
	} {
		if got := binaryOf(c.op, c.a, c.b); got != c.want {
			t.Errorf("Binary(%d, %+v, %+v) = %+v, want %+v", c.op, c.a, c.b, got, c.want)
		}
	}
}

// P3.4: the first fault counts.
func TestOrderOfFaults(t *testing.T) {
	wrong := integer(tenTo15 + 1)
	long := str(strings.Repeat("a", 201))
	for _, c := range []struct {
		op   int
		a, b api.Value
		want string
	}{
		{99, unset, integer(1), "unset"},
		{0, integer(1), unset, "unset"},
		{api.OpNot, unset, unset, "unset"},
		{api.OpDiv, unset, integer(0), "unset"},
		{api.OpAdd, wrong, unset, "unset"},
		{api.OpAdd, api.Value{Kind: api.Unset, N: 1}, wrong, "unset"},
		{api.OpCat, long, api.Value{Kind: api.Unset, S: "a"}, "unset"},
		{api.OpEqual, api.Value{Kind: 7}, unset, "unset"},
		{api.OpDiv, str("a"), integer(0), "type"},
		{api.OpMod, wrong, integer(0), "type"},
		{api.OpDiv, integer(0), api.Value{Kind: api.Int, S: "a"}, "type"},
		{api.OpMul, wrong, integer(tenTo15), "type"},
		{api.OpMul, wrong, integer(0), "type"},
		{api.OpSub, wrong, integer(1), "type"},
		{api.OpCat, long, str("a"), "type"},
		{api.OpCat, str("a"), long, "type"},
		{api.OpCat, str("a\n"), str(strings.Repeat("a", 200)), "type"},
		{api.OpEqual, wrong, wrong, "type"},
		{api.OpEqual, null, api.Value{Kind: 7}, "type"},
		{api.OpLess, str("a"), str("b\n"), "type"},
		{api.OpAnd, no, api.Value{Kind: api.Bool, N: 2}, "type"},
		{api.OpOr, yes, api.Value{Kind: api.Bool, N: -1}, "type"},
		{api.OpNot, yes, yes, "type"},
		{api.OpNeg, integer(1), integer(1), "type"},
		{api.OpMove, integer(1), integer(1), "type"},
		{api.OpNew, str("a"), str("a"), "type"},
	} {
		v, fault := Binary(c.op, c.a, c.b)
		fails(t, "Binary", v, fault, c.want)
	}
}

// P3.4: each operator of lines, and numbers that are none, with right operands of all kinds.
func TestBinaryOfRightValues(t *testing.T) {
	for _, op := range operators() {
		for _, a := range rightValues() {
			for _, b := range rightValues() {
				if got, want := binaryOf(op, a.value, b.value), wantBinary(op, a.value, b.value, true); got != want {
					t.Errorf("Binary(%d, %s, %s) = %+v, want %+v", op, a.text, b.text, got, want)
				}
			}
		}
	}
}

// P3.4: operands that are not right, on both sides.
func TestBinaryOfWrongValues(t *testing.T) {
	wrong := wrongValues()
	others := append(wrong[:12:12], unset, null, yes, integer(0), integer(1), str("a"), cell(1), function(1))
	for _, op := range operators() {
		for _, a := range wrong {
			for _, b := range append(others, a) {
				if got, want := binaryOf(op, a, b), wantBinary(op, a, b, false); got != want {
					t.Errorf("Binary(%d, %+v, %+v) = %+v, want %+v", op, a, b, got, want)
				}
				if got, want := binaryOf(op, b, a), wantBinary(op, b, a, false); got != want {
					t.Errorf("Binary(%d, %+v, %+v) = %+v, want %+v", op, b, a, got, want)
				}
			}
		}
	}
}

// someInt returns ints of all sizes, and often the bounds.
func someInt(r *rand.Rand) int {
	n := int(r.Uint64N(tenTo15 + 1))
	for range r.IntN(16) {
		n /= 10
	}
	if r.IntN(10) == 0 {
		n = tenTo15 - r.IntN(3)
	}
	return n * (1 - 2*r.IntN(2))
}

// P3.4, P3.5: ints of all sizes, against numbers without a limit.
func TestArithmetic(t *testing.T) {
	r := rand.New(rand.NewPCG(3, 4))
	for range 30000 {
		a, b := integer(someInt(r)), integer(someInt(r))
		for op := api.OpAdd; op <= api.OpEqual; op++ {
			if got, want := binaryOf(op, a, b), wantBinary(op, a, b, true); got != want {
				t.Fatalf("Binary(%d, %d, %d) = %+v, want %+v", op, a.N, b.N, got, want)
			}
		}
	}
}

// P3.4: products just within the bounds, and just beyond.
func TestProductsAtTheBounds(t *testing.T) {
	r := rand.New(rand.NewPCG(5, 6))
	for range 20000 {
		a := max(1, someInt(r))
		for b := tenTo15/a - 1; b <= tenTo15/a+1; b++ {
			if b > tenTo15 {
				continue
			}
			for _, sign := range [][2]int{{1, 1}, {1, -1}, {-1, 1}, {-1, -1}} {
				x, y := integer(sign[0]*a), integer(sign[1]*b)
				if got, want := binaryOf(api.OpMul, x, y), wantBinary(api.OpMul, x, y, true); got != want {
					t.Fatalf("%d times %d = %+v, want %+v", x.N, y.N, got, want)
				}
			}
		}
	}
}

// P3.5: results are right, and of the kind that the table says.
func TestKindsOfResults(t *testing.T) {
	kinds := map[int]int{
		api.OpAdd: api.Int, api.OpSub: api.Int, api.OpMul: api.Int, api.OpDiv: api.Int, api.OpMod: api.Int,
		api.OpLess: api.Bool, api.OpEqual: api.Bool, api.OpAnd: api.Bool, api.OpOr: api.Bool, api.OpCat: api.Str,
	}
	found := map[int]bool{}
	for _, op := range operators() {
		for _, a := range rightValues() {
			for _, b := range rightValues() {
				got := binaryOf(op, a.value, b.value)
				if got.fault != "" {
					continue
				}
				found[op] = true
				if kind, known := kinds[op]; !known || got.value.Kind != kind || !Right(got.value) {
					t.Errorf("Binary(%d, %s, %s) = %+v", op, a.text, b.text, got)
				}
			}
		}
	}
	if len(found) != len(kinds) {
		t.Errorf("%d operators have results, want %d", len(found), len(kinds))
	}
}

// P3.5: what holds of all pairs of ints, and of strings.
func TestLaws(t *testing.T) {
	for _, a := range rightValues() {
		for _, b := range rightValues() {
			x, y := a.value, b.value
			if x.Kind != y.Kind || x.Kind != api.Int && x.Kind != api.Str {
				continue
			}
			trues := 0
			for _, got := range []result{binaryOf(api.OpLess, x, y), binaryOf(api.OpLess, y, x), binaryOf(api.OpEqual, x, y)} {
				if got.value == yes {
					trues++
				}
			}
			if trues != 1 {
				t.Errorf("%s and %s: %d of less, greater and equal are true", a.text, b.text, trues)
			}
			if x.Kind == api.Int {
				lawsOfInts(t, x, y)
			}
		}
	}
}

func lawsOfInts(t *testing.T, x, y api.Value) {
	t.Helper()
	for op := api.OpAdd; op <= api.OpMod; op++ {
		if got := binaryOf(op, x, y); got.fault == "type" || got.fault == "unset" {
			t.Errorf("Binary(%d, %d, %d) = %+v", op, x.N, y.N, got)
		}
	}
	for _, op := range []int{api.OpAdd, api.OpMul} {
		if binaryOf(op, x, y) != binaryOf(op, y, x) {
			t.Errorf("Binary(%d) of %d and %d depends on the order", op, x.N, y.N)
		}
	}
	if y.N == 0 {
		return
	}
	quotient, rest := binaryOf(api.OpDiv, x, y), binaryOf(api.OpMod, x, y)
	back := binaryOf(api.OpAdd, binaryOf(api.OpMul, y, quotient.value).value, rest.value)
	if back != (result{x, ""}) {
		t.Errorf("%d times %d, plus %d, is %+v, want %d", y.N, quotient.value.N, rest.value.N, back, x.N)
	}
	if rest.value.N < 0 && x.N > 0 || rest.value.N > 0 && x.N < 0 || size(rest.value.N) >= size(y.N) {
		t.Errorf("the rest of %d and %d is %d", x.N, y.N, rest.value.N)
	}
}

// R4: the same call returns the same, whatever was called in between.
func TestNothingIsKept(t *testing.T) {
	first := binaryOf(api.OpCat, str("a"), str("b"))
	for _, op := range operators() {
		Binary(op, str("c"), str("d"))
		Unary(op, integer(1))
	}
	if again := binaryOf(api.OpCat, str("a"), str("b")); again != first || again.value != str("ab") {
		t.Errorf("%+v, then %+v", first, again)
	}
}
