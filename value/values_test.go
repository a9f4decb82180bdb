package value

import (
	"math"
	"strings"
	"testing"

	"facsimile/api"
)

const million = 1000000

// tenTo15 is the greatest int, as the chapter has it.
const tenTo15 = million * million * 1000

var (
	unset = api.Value{}
	null  = api.Value{Kind: api.Nil}
	no    = api.Value{Kind: api.Bool}
	yes   = api.Value{Kind: api.Bool, N: 1}
)

func integer(n int) api.Value { return api.Value{Kind: api.Int, N: n} }

func str(s string) api.Value { return api.Value{Kind: api.Str, S: s} }

func cell(n int) api.Value { return api.Value{Kind: api.Ref, N: n} }

func function(n int) api.Value { return api.Value{Kind: api.Fun, N: n} }

// textCase is a right value and its text.
type textCase struct {
	value api.Value
	text  string
}

// rightValues returns values of each kind, with the bounds of each.
func rightValues() []textCase {
	long := strings.Repeat("a", 200)
	return []textCase{
		{unset, "unset"},
		{null, "nil"},
		{no, "false"},
		{yes, "true"},
		{integer(0), "0"},
		{integer(1), "1"},
		{integer(-1), "-1"},
		{integer(2), "2"},
		{integer(-2), "-2"},
		{integer(7), "7"},
		{integer(-7), "-7"},
		{integer(100), "100"},
		{integer(31622776), "31622776"},
		{integer(31622777), "31622777"},
		{integer(-31622777), "-31622777"},
		{integer(100 * million), "100000000"},
		{integer(tenTo15 / 2), "500000000000000"},
		{integer(-tenTo15/2 - 1), "-500000000000001"},
		{integer(tenTo15 - 1), "999999999999999"},
		{integer(1 - tenTo15), "-999999999999999"},
		{integer(tenTo15), "1000000000000000"},
		{integer(-tenTo15), "-1000000000000000"},
		{str(""), "''"},
		{str("a"), "'a'"},
		{str("ab"), "'ab'"},
		{str("b"), "'b'"},
		{str("A"), "'A'"},
		{str("'"), "''''"},
		{str("''"), "''''''"},
		{str("it's"), "'it''s'"},
		{str("'a'"), "'''a'''"},
		{str(" ~"), "' ~'"},
		{str("\"\\`"), "'\"\\`'"},
		{str("nil"), "'nil'"},
		{str("7"), "'7'"},
		{str("@7"), "'@7'"},
		{str(long), "'" + long + "'"},
		{str(long[1:]), "'" + long[1:] + "'"},
		{str(long[1:] + "'"), "'" + long[1:] + "'''"},
		{str(strings.Repeat("'", 200)), "'" + strings.Repeat("''", 200) + "'"},
		{cell(0), "@0"},
		{cell(1), "@1"},
		{cell(7), "@7"},
		{cell(999999999), "@999999999"},
		{cell(1000000000), "@1000000000"},
		{function(0), "&0"},
		{function(1), "&1"},
		{function(9), "&9"},
		{function(23), "&23"},
	}
}

// wrongValues returns values that are not right: one beyond each bound, and fields that a kind has not.
func wrongValues() []api.Value {
	list := []api.Value{
		{Kind: -1}, {Kind: 7}, {Kind: 8}, {Kind: 100}, {Kind: math.MinInt}, {Kind: math.MaxInt}, {Kind: 7, S: "a"}, {Kind: -1, N: 1},
		{Kind: api.Unset, N: 1}, {Kind: api.Unset, N: -1}, {Kind: api.Unset, S: "a"},
		{Kind: api.Nil, N: 1}, {Kind: api.Nil, N: -1}, {Kind: api.Nil, S: "a"},
		{Kind: api.Bool, N: 2}, {Kind: api.Bool, N: -1}, {Kind: api.Bool, N: math.MaxInt}, {Kind: api.Bool, N: math.MinInt},
		integer(tenTo15 + 1), integer(-tenTo15 - 1), integer(math.MaxInt), integer(math.MinInt),
		{Kind: api.Str, N: 1}, {Kind: api.Str, N: -1, S: "a"},
		cell(-1), cell(1000000001), cell(math.MaxInt), cell(math.MinInt),
		function(-1), function(24), function(math.MaxInt), function(math.MinInt),
		str("\x1f"), str("\x7f"), str("a\n"), str("\ta"), str("a\x00a"), str("\xff"), str("\x80"), str("é"),
		str(strings.Repeat("a", 201)), str(strings.Repeat("'", 201)), str(strings.Repeat("a", 200) + "\n"),
	}
	for _, c := range rightValues() {
		if v := c.value; v.Kind != api.Str {
			v.S = "a"
			list = append(list, v)
		}
	}
	return list
}

// operators returns the numbers of all operators of lines, and others.
func operators() []int {
	list := []int{math.MinInt, math.MaxInt, 1 << 32, 1<<32 + api.OpAdd, -api.OpAdd, api.BNop, api.BLeave}
	for op := -2; op <= api.OpEnd+2; op++ {
		list = append(list, op)
	}
	return list
}

// fails checks that a result is a zero value with this fault.
func fails(t *testing.T, what string, v api.Value, fault, want string) {
	t.Helper()
	if v != (api.Value{}) || fault != want {
		t.Errorf("%s = %+v, fault %q, want the fault %q alone", what, v, fault, want)
	}
}

// gives checks that a result is this value, without a fault.
func gives(t *testing.T, what string, v api.Value, fault string, want api.Value) {
	t.Helper()
	if v != want || fault != "" {
		t.Errorf("%s = %+v, fault %q, want %+v", what, v, fault, want)
	}
}
