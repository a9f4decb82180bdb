package lang

import (
	"reflect"
	"strings"
	"testing"

	"facsimile/api"
)

func str(s string) api.Value { return api.Value{Kind: api.Str, S: s} }

func number(n int) api.Value { return api.Value{Kind: api.Int, N: n} }

// lineCase is a right line and its text.
type lineCase struct {
	text string
	line api.Line
}

func constant(literal string, v api.Value) lineCase {
	return lineCase{"x = " + literal, api.Line{Op: api.OpConst, A: "x", Const: v}}
}

// rightLines returns at least one line of each operator.
func rightLines() []lineCase {
	return []lineCase{
		constant("nil", api.Value{Kind: api.Nil}),
		constant("true", api.Value{Kind: api.Bool, N: 1}),
		constant("false", api.Value{Kind: api.Bool}),
		constant("0", number(0)),
		constant("-1", number(-1)),
		constant("90", number(90)),
		constant("1000000000000000", number(1000000000000000)),
		constant("-1000000000000000", number(-1000000000000000)),
		constant("''", str("")),
		constant("''''", str("'")),
		constant("'it''s'", str("it's")),
		constant("'''a'''", str("'a'")),
		constant("' ~'", str(" ~")),
		constant("'A = new B'", str("A = new B")),
		constant("'"+strings.Repeat("a", 200)+"'", str(strings.Repeat("a", 200))),
		constant("'"+strings.Repeat("''", 200)+"'", str(strings.Repeat("'", 200))),
		{"a = b", api.Line{Op: api.OpMove, A: "a", B: "b"}},
		{"a = Nil", api.Line{Op: api.OpMove, A: "a", B: "Nil"}},
		{"a = not b", api.Line{Op: api.OpNot, A: "a", B: "b"}},
		{"a = neg b", api.Line{Op: api.OpNeg, A: "a", B: "b"}},
		{"a = b + c", api.Line{Op: api.OpAdd, A: "a", B: "b", C: "c"}},
		{"a = b - c", api.Line{Op: api.OpSub, A: "a", B: "b", C: "c"}},
		{"a = b * c", api.Line{Op: api.OpMul, A: "a", B: "b", C: "c"}},
		{"a = b / c", api.Line{Op: api.OpDiv, A: "a", B: "b", C: "c"}},
		{"a = b % c", api.Line{Op: api.OpMod, A: "a", B: "b", C: "c"}},
		{"a = b < c", api.Line{Op: api.OpLess, A: "a", B: "b", C: "c"}},
		{"a = b == c", api.Line{Op: api.OpEqual, A: "a", B: "b", C: "c"}},
		{"a = b and c", api.Line{Op: api.OpAnd, A: "a", B: "b", C: "c"}},
		{"a = b or c", api.Line{Op: api.OpOr, A: "a", B: "b", C: "c"}},
		{"a = b . c", api.Line{Op: api.OpCat, A: "a", B: "b", C: "c"}},
		{"a = new f", api.Line{Op: api.OpNew, A: "a", Name: "f"}},
		{"a = b.f", api.Line{Op: api.OpGet, A: "a", B: "b", Name: "f"}},
		{"a.f = b", api.Line{Op: api.OpSet, A: "a", B: "b", Name: "f"}},
		{"a = array b", api.Line{Op: api.OpArray, A: "a", B: "b"}},
		{"a = b[c]", api.Line{Op: api.OpAt, A: "a", B: "b", C: "c"}},
		{"a[b] = c", api.Line{Op: api.OpPut, A: "a", B: "b", C: "c"}},
		{"a = len b", api.Line{Op: api.OpLen, A: "a", B: "b"}},
		{"a = call f", api.Line{Op: api.OpCall, A: "a", Name: "f"}},
		{"a = call f b", api.Line{Op: api.OpCall, A: "a", Name: "f", Args: []string{"b"}}},
		{"a = bind f", api.Line{Op: api.OpBind, A: "a", Name: "f"}},
		{"a = bind f b c", api.Line{Op: api.OpBind, A: "a", Name: "f", Args: []string{"b", "c"}}},
		{"a = apply b", api.Line{Op: api.OpApply, A: "a", B: "b"}},
		{"a = apply b c d", api.Line{Op: api.OpApply, A: "a", B: "b", Args: []string{"c", "d"}}},
		{"a = send b f", api.Line{Op: api.OpSend, A: "a", B: "b", Name: "f"}},
		{"a = send b f c d e f g h i j", api.Line{Op: api.OpSend, A: "a", B: "b", Name: "f", Args: strings.Fields("c d e f g h i j")}},
		{"a = weak b", api.Line{Op: api.OpWeak, A: "a", B: "b"}},
		{"a = deref b", api.Line{Op: api.OpDeref, A: "a", B: "b"}},
		{"final a f", api.Line{Op: api.OpFinal, A: "a", Name: "f"}},
		{"print a", api.Line{Op: api.OpPrint, A: "a"}},
		{"a = input", api.Line{Op: api.OpInput, A: "a"}},
		{"a = clock", api.Line{Op: api.OpClock, A: "a"}},
		{"spawn 3 f", api.Line{Op: api.OpSpawn, Name: "f", Const: number(3)}},
		{"spawn -1000000000000000 f b c", api.Line{Op: api.OpSpawn, Name: "f", Args: []string{"b", "c"}, Const: number(-1000000000000000)}},
		{"yield", api.Line{Op: api.OpYield}},
		{"throw a", api.Line{Op: api.OpThrow, A: "a"}},
		{"return a", api.Line{Op: api.OpReturn, A: "a"}},
		{"if a", api.Line{Op: api.OpIf, A: "a"}},
		{"else", api.Line{Op: api.OpElse}},
		{"while a", api.Line{Op: api.OpWhile, A: "a"}},
		{"try", api.Line{Op: api.OpTry}},
		{"catch a", api.Line{Op: api.OpCatch, A: "a"}},
		{"finally", api.Line{Op: api.OpFinally}},
		{"end", api.Line{Op: api.OpEnd}},
	}
}

// P1.1, P1.5: the text of each right line, and the line of each text.
func TestRightLines(t *testing.T) {
	ops, texts := map[int]bool{}, map[string]bool{}
	for _, c := range rightLines() {
		if got := Line(c.line); got != c.text {
			t.Errorf("Line(%+v) = %q, want %q", c.line, got, c.text)
		}
		got, ok := ReadLine(c.text)
		if !ok || !reflect.DeepEqual(got, c.line) {
			t.Errorf("ReadLine(%q) = %+v, %t", c.text, got, ok)
		}
		if texts[c.text] {
			t.Errorf("%q is the text of two lines", c.text)
		}
		ops[c.line.Op], texts[c.text] = true, true
	}
	for op := api.OpConst; op <= api.OpEnd; op++ {
		if !ops[op] {
			t.Errorf("no line with the operator %d", op)
		}
	}
}

// R1: nil and empty Args are the same.
func TestEmptyArgs(t *testing.T) {
	for _, c := range rightLines() {
		if len(c.line.Args) == 0 {
			c.line.Args = []string{}
			if got := Line(c.line); got != c.text {
				t.Errorf("Line of %q with empty Args = %q", c.text, got)
			}
		}
	}
}

func noLine(t *testing.T, s string) {
	t.Helper()
	if l, ok := ReadLine(s); ok || !reflect.DeepEqual(l, api.Line{}) {
		t.Errorf("ReadLine(%q) = %+v, %t", s, l, ok)
	}
}

// P1.1: texts that are those of no line.
func TestTextsOfNoLine(t *testing.T) {
	for _, s := range []string{
		"", " ", "\n", "x", "x =", "x = ", "x=y", "x =y", "x= y", " x = y", "x = y ", "x  = y", "x =  y", "x = y\n", "X = Y = Z",
		"x = if", "if = x", "x = end + y", "x = y + end", "x = new end", "x = y.end", "x.end = y", "9 = x", "x = 9x", "x = y_",
		"abcdefghijklm = x", "x = abcdefghijklm", "x = y + abcdefghijklm", "x = new abcdefghijklm", "x = call f abcdefghijklm",
		"x = -0", "x = 00", "x = 01", "x = -01", "x = +1", "x = 1.5", "x = 1e3", "x = 0x1", "x = 1_0", "x = -", "x = --1", "x = 1 ", "x = - 1",
		"x = 1000000000000001", "x = -1000000000000001", "x = 9223372036854775808", "x = 99999999999999999999999999", "x = " + strings.Repeat("9", 7000),
		"x = '", "x = '''", "x = 'a", "x = a'", "x = 'a'b'", "x = 'a''", "x = ''a'", "x = 'a' ", "x = 'a'''b'", "x = \"a\"",
		"x = 'a\tb'", "x = '\x1f'", "x = '\x7f'", "x = '\xff'", "x = 'é'", "x = 'a\nb'",
		"x = '" + strings.Repeat("a", 201) + "'", "x = '" + strings.Repeat("''", 201) + "'",
		"x = nil ", "x = nil nil", "nil", "true = x",
		"x = y z", "x = y +z", "x = y+z", "x = y + ", "x = y +", "x = + y", "x = y + 1", "x = 1 + y", "x = y + z + w", "x = y === z", "x = y = z", "x = y xor z", "x = y & z", "x = y > z",
		"x = not", "x = not ", "x = not 1", "x = not not y", "x = not y z", "x = neg  y", "x = len", "x = weak", "x = deref", "x = array", "x = array 3",
		"x = y .z", "x = y. z", "x = y.z.w", "x.y = z.w", "x .y = z", "x. y = z", "x.y = 1", "x.y=z", ".y = z", "x. = z",
		"x = y[z", "x = y[]", "x = y[ z]", "x = y[z ]", "x = y [z]", "x = y[1]", "x = y[z][w]", "x[y] = z[w]", "x [y] = z", "x[y]= z", "x[y] =z", "x[y] = 1", "x[] = z", "x[y = z",
		"x = call", "x = call ", "x = call f ", "x = call f  y", "x = call f y ", "x = call f 1", "x = call f if", "x = call f,y", "call f", "x = call f.g",
		"x = apply", "x = apply f if", "x = bind", "x = send", "x = send y", "x = send y ", "x = send y if", "x = new", "x = new N y",
		"final", "final x", "final x ", "final x f y", "final f 1", "x = final y f",
		"spawn", "spawn f", "spawn 1", "spawn 1 ", "spawn 01 f", "spawn -0 f", "spawn + f", "spawn 1  f", "spawn 1 f ", "spawn 1000000000000001 f", "spawn true f", "spawn nil f", "spawn 'a' f", "spawn x f", "x = spawn 1 f",
		"print", "print ", "print 1", "print x y", "print 'a'", "throw", "return", "return nil", "return x ", "if", "if true", "while", "while not x", "catch", "catch 1",
		"yield x", "else x", "else ", "try x", "finally x", "end x", " end", "end ", "END", "endfunc", "func f", "class A", "method m f", "input", "x = input y", "x = clock ",
	} {
		noLine(t, s)
	}
}

// P1.1: more than 8 arguments, however many.
func TestArgs(t *testing.T) {
	for _, start := range []string{"x = call f", "x = bind f", "x = apply f", "x = send y m", "spawn 1 f"} {
		text := start + strings.Repeat(" a", 8)
		if l, ok := ReadLine(text); !ok || len(l.Args) != 8 || Line(l) != text {
			t.Errorf("ReadLine(%q) = %+v, %t", text, l, ok)
		}
		noLine(t, text+" a")
		l, _ := ReadLine(text)
		l.Args = append(l.Args, "a")
		if got := Line(l); got != "" {
			t.Errorf("Line(%+v) = %q", l, got)
		}
	}
	noLine(t, "x = call f"+strings.Repeat(" a", 1000000))
}

// spoiled returns lines that differ from l in a single field that has a text, and are not right.
func spoiled(l api.Line) []api.Line {
	var out []api.Line
	for _, s := range []string{"", "if", "abcdefghijklm", "a b", "1", "a\n", "'"} {
		for n := range 4 {
			m := l
			field := []*string{&m.A, &m.B, &m.C, &m.Name}[n]
			if *field != "" {
				*field = s
				out = append(out, m)
			}
		}
		for n := range l.Args {
			m := l
			m.Args = append([]string(nil), l.Args...)
			m.Args[n] = s
			out = append(out, m)
		}
	}
	return out
}

// filled returns lines that have one field more than l.
func filled(l api.Line) []api.Line {
	var out []api.Line
	for n := range 4 {
		m := l
		field := []*string{&m.A, &m.B, &m.C, &m.Name}[n]
		if *field == "" {
			*field = "y"
			out = append(out, m)
		}
	}
	if l.Op != api.OpConst && l.Op != api.OpSpawn {
		for _, v := range []api.Value{{Kind: api.Nil}, number(0), str(""), {N: 1}, {S: "a"}} {
			m := l
			m.Const = v
			out = append(out, m)
		}
	}
	if l.Op < api.OpCall || l.Op > api.OpSend && l.Op != api.OpSpawn {
		m := l
		m.Args = []string{"y"}
		out = append(out, m)
	}
	return out
}

// P1.1: lines with a field that is not right, or that their text has not.
func TestLinesThatAreNotRight(t *testing.T) {
	for _, c := range rightLines() {
		for _, l := range append(spoiled(c.line), filled(c.line)...) {
			if got := Line(l); got != "" {
				t.Errorf("Line(%+v) = %q", l, got)
			}
		}
	}
	for _, op := range []int{-1 << 63, -1, 0, api.OpEnd + 1, 99, 100, 1<<63 - 1} {
		for _, l := range []api.Line{{Op: op}, {Op: op, A: "x"}, {Op: op, A: "x", B: "y", C: "z", Name: "f", Const: number(1)}} {
			if got := Line(l); got != "" {
				t.Errorf("Line(%+v) = %q", l, got)
			}
		}
	}
}

// P1.1: values that have no literal.
func TestConstants(t *testing.T) {
	for _, v := range []api.Value{
		{}, {N: 1}, {Kind: api.Nil, N: 1}, {Kind: api.Nil, S: "a"}, {Kind: api.Bool, N: 2}, {Kind: api.Bool, N: -1}, {Kind: api.Bool, S: "a"},
		{Kind: api.Int, S: "a"}, number(1000000000000001), number(-1000000000000001), number(1<<63 - 1), number(-1 << 63),
		{Kind: api.Str, N: 1}, {Kind: api.Str, N: 1, S: "a"}, str("a\n"), str("\x1f"), str("\x7f"), str("é"), str(strings.Repeat("a", 201)), str(strings.Repeat("'", 201)), str(strings.Repeat("a", 1000000)),
		{Kind: api.Ref}, {Kind: api.Fun}, {Kind: 7}, {Kind: -1},
	} {
		if got := Line(api.Line{Op: api.OpConst, A: "x", Const: v}); got != "" {
			t.Errorf("constant %+v: %q", v, got)
		}
		if got := Line(api.Line{Op: api.OpSpawn, Name: "f", Const: v}); got != "" {
			t.Errorf("spawn %+v: %q", v, got)
		}
	}
	for _, v := range []api.Value{{Kind: api.Nil}, {Kind: api.Bool}, {Kind: api.Bool, N: 1}, str(""), str("1")} {
		if got := Line(api.Line{Op: api.OpSpawn, Name: "f", Const: v}); got != "" {
			t.Errorf("spawn %+v: %q", v, got)
		}
	}
}

// P1.1: each byte of a string alone.
func TestStringsOfEachByte(t *testing.T) {
	for c := range 256 {
		s := string([]byte{byte(c)})
		l := api.Line{Op: api.OpConst, A: "x", Const: str("a" + s)}
		want := ""
		if c >= 32 && c <= 126 {
			want = "x = 'a" + s + "'"
		}
		if s == "'" {
			want = "x = 'a'''"
		}
		if got := Line(l); got != want {
			t.Errorf("byte %d: %q, want %q", c, got, want)
		}
	}
}

// P1.1: a text that was changed at one byte is no line, or the text of the line that is read.
func TestLinesOfChangedTexts(t *testing.T) {
	const changes = "\x00\n '+-.01=[]aAdr~\x7f\xff"
	for _, c := range rightLines() {
		for n := range c.text {
			checkText(t, c.text[:n]+c.text[n+1:])
			for k := range len(changes) {
				checkText(t, c.text[:n]+changes[k:k+1]+c.text[n+1:])
				checkText(t, c.text[:n]+changes[k:k+1]+c.text[n:])
			}
		}
	}
}

func checkText(t *testing.T, s string) {
	t.Helper()
	l, ok := ReadLine(s)
	if ok && Line(l) != s || !ok && !reflect.DeepEqual(l, api.Line{}) {
		t.Errorf("ReadLine(%q) = %+v, %t, with the text %q", s, l, ok, Line(l))
	}
}

// R3: a line that was read keeps its arguments when another one is read.
func TestLinesShareNothing(t *testing.T) {
	a, _ := ReadLine("x = call f a b c")
	b, _ := ReadLine("x = call f a b c")
	b.Args[0] = "z"
	_ = append(a.Args[:1], "z")
	c, _ := ReadLine("x = call f a b c")
	if Line(c) != "x = call f a b c" || Line(b) != "x = call f z b c" || Line(a) != "x = call f a z c" {
		t.Errorf("%q, %q, %q", Line(a), Line(b), Line(c))
	}
}
