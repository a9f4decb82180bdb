package value

import (
	"strconv"
	"strings"

	"facsimile/api"
)

// What the texts of strings, refs and functions begin with.
const (
	quote = "'"
	ref   = "@"
	fun   = "&"
)

// Text returns the text of a right value, and the empty string for others.
func Text(v api.Value) string {
	if !Right(v) {
		return ""
	}
	switch v.Kind {
	case api.Nil:
		return "nil"
	case api.Bool:
		return strconv.FormatBool(v.N == 1)
	case api.Int:
		return strconv.Itoa(v.N)
	case api.Str:
		return quote + strings.ReplaceAll(v.S, quote, quote+quote) + quote
	case api.Ref:
		return ref + strconv.Itoa(v.N)
	case api.Fun:
		return fun + strconv.Itoa(v.N)
	}
	return "unset"
}

// Read returns the right value whose text is s, and whether there is one.
func Read(s string) (api.Value, bool) {
	v := guess(s)
	// The guess does not look for what no text has: numbers out of bounds, zeros in front, quotes that are not doubled.
	if Text(v) != s {
		return api.Value{}, false
	}
	return v, true
}

// guess returns the value whose text is s, if s is a text at all.
func guess(s string) api.Value {
	switch {
	case s == "nil":
		return api.Value{Kind: api.Nil}
	case s == "true", s == "false":
		return truth(s == "true")
	case strings.HasPrefix(s, quote):
		inner := strings.TrimSuffix(s[len(quote):], quote)
		return api.Value{Kind: api.Str, S: strings.ReplaceAll(inner, quote+quote, quote)}
	case strings.HasPrefix(s, ref):
		return numbered(api.Ref, s[len(ref):])
	case strings.HasPrefix(s, fun):
		return numbered(api.Fun, s[len(fun):])
	}
	return numbered(api.Int, s)
}

// numbered returns the value of this Kind with the number s; without a number nothing is left but the value without a kind.
func numbered(kind int, s string) api.Value {
	n, err := strconv.Atoi(s)
	if err != nil {
		return api.Value{}
	}
	return api.Value{Kind: kind, N: n}
}

// printable reports whether s may be the string of a value.
func printable(s string) bool {
	if len(s) > api.MaxString {
		return false
	}
	for n := range len(s) {
		if s[n] < ' ' || s[n] > '~' {
			return false
		}
	}
	return true
}
