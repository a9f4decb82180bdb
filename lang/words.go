package lang

// maxName is how many bytes a name has at most.
const maxName = 12

// words returns the words of the language.
func words() map[string]bool {
	return map[string]bool{
		"class": true, "method": true, "func": true, "endfunc": true,
		"nil": true, "true": true, "false": true,
		"not": true, "neg": true, "and": true, "or": true,
		"new": true, "array": true, "len": true,
		"call": true, "bind": true, "apply": true, "send": true,
		"weak": true, "deref": true, "final": true,
		"print": true, "input": true, "clock": true,
		"spawn": true, "yield": true, "throw": true, "return": true,
		"if": true, "else": true, "while": true,
		"try": true, "catch": true, "finally": true, "end": true,
	}
}

// shaped reports whether s is a name, unless it is a word.
func shaped(s string) bool {
	return s != "" && len(s) <= maxName && letter(s[0]) && run(s) == len(s)
}

// run returns how many letters and digits s begins with.
func run(s string) int {
	n := 0
	for n < len(s) && (letter(s[n]) || digit(s[n])) {
		n++
	}
	return n
}

func letter(c byte) bool { return 'a' <= c && c <= 'z' || 'A' <= c && c <= 'Z' }

func digit(c byte) bool { return '0' <= c && c <= '9' }
