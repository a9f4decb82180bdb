package lang

import (
	"strings"
	"testing"
)

const allWords = "class method func endfunc nil true false not neg and or new array len call bind apply send weak deref final print input clock spawn yield throw return if else while try catch finally end"

// P1.1: a name is no word of the language.
func TestWordsAreNoNames(t *testing.T) {
	list := strings.Fields(allWords)
	if len(list) != 35 || len(words()) != 35 {
		t.Fatalf("%d words in the test, %d in the package, want 35", len(list), len(words()))
	}
	for _, w := range list {
		if Name(w) {
			t.Errorf("Name(%q)", w)
		}
		for _, other := range []string{w + "s", w + "1", "x" + w, strings.ToUpper(w)} {
			if !Name(other) {
				t.Errorf("Name(%q) is false", other)
			}
		}
	}
}

// P1.1: 1 to 12 letters and digits, a letter first.
func TestNames(t *testing.T) {
	for _, s := range []string{"a", "z", "A", "Z", "a0", "Z9", "End", "main", "abcdefghijkl", "a12345678901"} {
		if !Name(s) {
			t.Errorf("Name(%q) is false", s)
		}
	}
	for _, s := range []string{"", "0", "9a", "abcdefghijklm", strings.Repeat("a", 1000000), "a b", " a", "a ", "a.b", "a_b", "_", "a-b", "-1", "'a'", "a\n", "a\x00", "\xff", "é", "aé"} {
		if Name(s) {
			t.Errorf("Name(%q)", s)
		}
	}
}

// P1.1: of the single bytes, the letters alone are names; after a letter, digits may follow too.
func TestNamesOfEachByte(t *testing.T) {
	const letters = "abcdefghijklmnopqrstuvwxyzABCDEFGHIJKLMNOPQRSTUVWXYZ"
	for c := range 256 {
		s := string([]byte{byte(c)})
		if got, want := Name(s), strings.Contains(letters, s); got != want {
			t.Errorf("Name(%q) = %t", s, got)
		}
		if got, want := Name("q"+s), strings.Contains(letters+"0123456789", s); got != want {
			t.Errorf("Name(%q) = %t", "q"+s, got)
		}
	}
}
