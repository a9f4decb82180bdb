package lang

import (
	"strconv"
	"strings"

	"facsimile/api"
)

const quote = "'"

// readLiteral returns the value whose literal is s.
func readLiteral(s string) (api.Value, bool) {
	switch {
	case s == "nil":
		return api.Value{Kind: api.Nil}, true
	case s == "true":
		return api.Value{Kind: api.Bool, N: 1}, true
	case s == "false":
		return api.Value{Kind: api.Bool}, true
	case strings.HasPrefix(s, quote):
		return readString(s)
	}
	return readInt(s)
}

// readInt returns the int whose literal is s.
func readInt(s string) (api.Value, bool) {
	n, err := strconv.Atoi(s)
	// Atoi also reads zeros in front, signs that are not needed, and -0.
	if err != nil || strconv.Itoa(n) != s || n < -api.MaxInt || n > api.MaxInt {
		return api.Value{}, false
	}
	return api.Value{Kind: api.Int, N: n}, true
}

// readString returns the string whose literal is s; s begins with a quote.
func readString(s string) (api.Value, bool) {
	inner := strings.TrimSuffix(s[1:], quote)
	v := api.Value{Kind: api.Str, S: strings.ReplaceAll(inner, quote+quote, quote)}
	// Written again, it has its quote at the end, and each quote within is doubled: s is no literal if it differs.
	if quoted(v.S) != s || !printable(v.S) {
		return api.Value{}, false
	}
	return v, true
}

// printable reports whether s may be the string of a value.
func printable(s string) bool {
	for n := range len(s) {
		if s[n] < ' ' || s[n] > '~' {
			return false
		}
	}
	return len(s) <= api.MaxString
}

// quoted returns the literal of a string.
func quoted(s string) string {
	return quote + strings.ReplaceAll(s, quote, quote+quote) + quote
}

// literal returns the literal of a value, if it has one.
func literal(v api.Value) string {
	switch v.Kind {
	case api.Nil:
		return "nil"
	case api.Bool:
		return strconv.FormatBool(v.N == 1)
	case api.Int:
		return strconv.Itoa(v.N)
	case api.Str:
		return quoted(v.S)
	}
	return ""
}
