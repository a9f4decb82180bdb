package value

import (
	"strconv"
	"strings"
	"testing"

	"facsimile/api"
)

// P3.1, P3.5: right values, their texts, and what is read from these.
func TestRightValues(t *testing.T) {
	kinds, texts := map[int]bool{}, map[string]bool{}
	for _, c := range rightValues() {
		if !Right(c.value) {
			t.Errorf("Right(%+v) is false", c.value)
		}
		if got := Text(c.value); got != c.text {
			t.Errorf("Text(%+v) = %q, want %q", c.value, got, c.text)
		}
		if got, ok := Read(c.text); !ok || got != c.value {
			t.Errorf("Read(%q) = %+v, %t, want %+v", c.text, got, ok, c.value)
		}
		if texts[c.text] {
			t.Errorf("%q is the text of two values", c.text)
		}
		kinds[c.value.Kind], texts[c.text] = true, true
	}
	if len(kinds) != 7 {
		t.Errorf("values of %d kinds, want 7", len(kinds))
	}
}

// P3.1: values that are not right have no text.
func TestWrongValues(t *testing.T) {
	for _, v := range wrongValues() {
		if Right(v) {
			t.Errorf("Right(%+v)", v)
		}
		if got := Text(v); got != "" {
			t.Errorf("Text(%+v) = %q", v, got)
		}
	}
}

// P3.1: of all kinds, seven are those of values.
func TestKinds(t *testing.T) {
	for kind := -1000; kind < 1000; kind++ {
		v := api.Value{Kind: kind}
		if got, want := Right(v), kind >= api.Unset && kind <= api.Fun; got != want || (Text(v) != "") != want {
			t.Errorf("Right(%+v) = %t, with the text %q", v, got, Text(v))
		}
	}
}

// P3.1: the numbers around the bounds of each kind.
func TestBounds(t *testing.T) {
	for kind, bound := range map[int][2]int{
		api.Unset: {0, 0}, api.Nil: {0, 0}, api.Bool: {0, 1}, api.Int: {-tenTo15, tenTo15}, api.Str: {0, 0}, api.Ref: {0, 1000 * million}, api.Fun: {0, 23},
	} {
		for _, end := range bound {
			for n := end - 3; n <= end+3; n++ {
				v := api.Value{Kind: kind, N: n}
				if got, want := Right(v), bound[0] <= n && n <= bound[1]; got != want {
					t.Errorf("Right(%+v) = %t", v, got)
				}
			}
		}
	}
}

// P3.1: each byte of a string alone.
func TestStringsOfEachByte(t *testing.T) {
	for c := range 256 {
		s := string([]byte{byte(c)})
		want, inside := "", s
		if s == "'" {
			inside = "''"
		}
		if c >= 32 && c <= 126 {
			want = "'a" + inside + "a'"
		}
		v := str("a" + s + "a")
		if got := Text(v); got != want || Right(v) != (want != "") {
			t.Errorf("byte %d: Text %q, want %q, and Right is %t", c, got, want, Right(v))
		}
		got, ok := Read("'a" + inside + "a'")
		if want == "" {
			v = api.Value{}
		}
		if got != v || ok != (want != "") {
			t.Errorf("byte %d: Read = %+v, %t", c, got, ok)
		}
	}
}

// P3.1: strings of all lengths around the limit, with quotes and without.
func TestLongStrings(t *testing.T) {
	for n := 190; n <= 210; n++ {
		for quotes := range 12 {
			s := strings.Repeat("'", quotes) + strings.Repeat("b", n-quotes)
			text := "'" + strings.Repeat("''", quotes) + strings.Repeat("b", n-quotes) + "'"
			v, ok := Read(text)
			if n > 200 {
				if ok || v != (api.Value{}) || Right(str(s)) || Text(str(s)) != "" {
					t.Errorf("a string of %d bytes is right, or its text is read: %+v, %t", n, v, ok)
				}
				continue
			}
			if !ok || v != str(s) || !Right(v) || Text(v) != text {
				t.Errorf("a string of %d bytes, with %d quotes, is read as %+v, %t", n, quotes, v, ok)
			}
		}
	}
}

func noValue(t *testing.T, s string) {
	t.Helper()
	if v, ok := Read(s); ok || v != (api.Value{}) {
		t.Errorf("Read(%q) = %+v, %t", s, v, ok)
	}
}

// P3.1: texts that are those of no value.
func TestTextsOfNoValue(t *testing.T) {
	for _, s := range []string{
		"", " ", "\n", "Unset", "unset ", " unset", "unset0", "unse", "UNSET", "Nil", "nil ", " nil", "nil nil", "null", "none",
		"True", "FALSE", "true ", " true", "truefalse", "t", "1 ", " 1", "1\n", "1\x00", "yes", "no",
		"-", "+", "-0", "+0", "+1", "00", "01", "-01", "--1", "- 1", "1.0", "1.5", "1e3", "0x1", "0b1", "0o7", "1_000", "1,000", "١", "a", "1a", "a1",
		"1000000000000001", "-1000000000000001", "9223372036854775807", "-9223372036854775808", "9223372036854775808", "18446744073709551617",
		"99999999999999999999999999", strings.Repeat("0", 20) + "1",
		"'", "'''", "'''''", "'a", "a'", "'a''", "''a'", "'a'b'", "'a'b", "'a' ", " 'a'", "'a'''b'", "'a''''b", "\"a\"", "`a`", "'a\"",
		"'\n'", "'\x1f'", "'\x7f'", "'\x80'", "'\xff'", "'é'", "'a\n", "'a'\n", "'a\x00'",
		"'" + strings.Repeat("a", 201) + "'", "'" + strings.Repeat("''", 201) + "'", strings.Repeat("'", 401), strings.Repeat("'", 403),
		"@", "@ 1", "@1 ", " @1", "@-1", "@-0", "@+1", "@00", "@01", "@1000000001", "@10000000000", "@9223372036854775808", "@a", "@'a'", "@@1", "@&1", "@1.0", "@nil", "@unset",
		"&", "& 1", "&1 ", " &1", "&-1", "&-0", "&+1", "&00", "&01", "&24", "&100", "&9223372036854775808", "&a", "&'a'", "&&1", "&@1", "&unset", "&nil",
		"#1", "$1", "%1", "*1", "(1)", "[1]", "1;", "nil\x00", "\x00", "\xff", "nilnil",
	} {
		noValue(t, s)
	}
}

// P1, R5: texts and values of any size; what a test prints of them is not.
func TestGreatArguments(t *testing.T) {
	for _, unit := range []string{"a", "'", "0", "9", "nil", "\n"} {
		great := strings.Repeat(unit, 10*million)
		for _, s := range []string{great, "'" + great, "'" + great + "'", "'" + great + "''", "-" + great, "@" + great, "&" + great} {
			if v, ok := Read(s); ok || v != (api.Value{}) {
				t.Errorf("a text of many %q is read", unit)
			}
		}
		for kind := -1; kind <= 8; kind++ {
			v := api.Value{Kind: kind, S: great}
			truth, ok := Truth(v)
			if Right(v) || Text(v) != "" || truth || ok {
				t.Errorf("a value of the kind %d with many %q is right", kind, unit)
			}
			want := "type"
			if kind == api.Unset {
				want = "unset"
			}
			for _, op := range operators() {
				_, first := Unary(op, v)
				_, second := Binary(op, v, v)
				if first != want || second != want {
					t.Errorf("the operator %d, a value of the kind %d with many %q: %s, %s", op, kind, unit, first, second)
				}
			}
		}
	}
}

// P3.1: all texts of up to three bytes of those that texts have, and a few others.
func TestShortTexts(t *testing.T) {
	const bytes = "'@&-+0129 a\n"
	texts := []string{""}
	for range 4 {
		var longer []string
		for _, s := range texts {
			checkText(t, s)
			for n := range len(bytes) {
				longer = append(longer, s+bytes[n:n+1])
			}
		}
		texts = longer
	}
}

// checkText checks that a text that is read is the text of what is read, and that no other one is.
func checkText(t *testing.T, s string) {
	t.Helper()
	v, ok := Read(s)
	if ok != isText(s) {
		t.Errorf("Read(%q) = %+v, %t", s, v, ok)
	}
	if ok && (!Right(v) || Text(v) != s) || !ok && v != (api.Value{}) {
		t.Errorf("Read(%q) = %+v, %t, with the text %q", s, v, ok, Text(v))
	}
}

// isText says by the chapter's table whether s is the text of a right value, without making one.
func isText(s string) bool {
	switch {
	case s == "unset" || s == "nil" || s == "false" || s == "true":
		return true
	case strings.HasPrefix(s, "@"):
		return isNumber(s[1:], 1000*million)
	case strings.HasPrefix(s, "&"):
		return isNumber(s[1:], 23)
	case strings.HasPrefix(s, "'"):
		return isString(s)
	case strings.HasPrefix(s, "-"):
		return s != "-0" && isNumber(s[1:], tenTo15)
	}
	return isNumber(s, tenTo15)
}

func isNumber(s string, most int) bool {
	limit := strconv.Itoa(most)
	if s == "" || len(s) > len(limit) || s[0] == '0' && s != "0" {
		return false
	}
	for n := range len(s) {
		if s[n] < '0' || s[n] > '9' {
			return false
		}
	}
	return len(s) < len(limit) || s <= limit
}

func isString(s string) bool {
	bytes, n := 0, 1
	for ; n < len(s)-1; n++ {
		if s[n] == '\'' {
			n++
			if s[n] != '\'' {
				return false
			}
		}
		if s[n] < 32 || s[n] > 126 {
			return false
		}
		bytes++
	}
	return n == len(s)-1 && s[n] == '\'' && bytes <= 200
}

// P3.1, P3.5: texts that were changed at one byte.
func TestChangedTexts(t *testing.T) {
	const changes = "\x00\n '+-.019@&aflnu~\x7f\xff"
	for _, c := range rightValues() {
		for n := range len(c.text) {
			checkText(t, c.text[:n]+c.text[n+1:])
			for k := range len(changes) {
				checkText(t, c.text[:n]+changes[k:k+1]+c.text[n+1:])
				checkText(t, c.text[:n]+changes[k:k+1]+c.text[n:])
				checkText(t, c.text+changes[k:k+1])
			}
		}
	}
}

// P3.1, P3.5: any text.
func FuzzRead(f *testing.F) {
	for _, c := range rightValues() {
		f.Add(c.text)
	}
	f.Add("'a'b'")
	f.Add("&24")
	f.Fuzz(checkText)
}

// P3.2: the truth of each kind of value, right or not.
func TestTruth(t *testing.T) {
	for _, c := range rightValues() {
		truth, ok := Truth(c.value)
		if truth != (c.value == yes) || ok != (c.value == yes || c.value == no) {
			t.Errorf("Truth(%+v) = %t, %t", c.value, truth, ok)
		}
	}
	for _, v := range wrongValues() {
		if truth, ok := Truth(v); truth || ok {
			t.Errorf("Truth(%+v) = %t, %t", v, truth, ok)
		}
	}
}
