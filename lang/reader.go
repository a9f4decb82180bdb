package lang

import (
	"strings"

	"facsimile/api"
)

// reader reads the text of a line: rest is what is left of it, line what was read.
type reader struct {
	words  map[string]bool
	fields map[byte]func(*reader) bool
	rest   string
	line   api.Line
}

func newReader() *reader { return &reader{words: words(), fields: fields()} }

// fields says how a field is read, by the letter that stands for it in a form.
func fields() map[byte]func(*reader) bool {
	return map[byte]func(*reader) bool{
		'A': (*reader).readA,
		'B': (*reader).readB,
		'C': (*reader).readC,
		'N': (*reader).readName,
		'L': (*reader).readLiteral,
		'I': (*reader).readInt,
		'X': (*reader).readArgs,
	}
}

// need leaves the reading of a line by a panic with the error, unless ok.
func need(ok bool, e api.Errno) {
	if !ok {
		panic(e)
	}
}

// read returns the right line with this text; if there is none, it panics with the error.
func (r *reader) read(text string) api.Line {
	for op := range forms {
		if op >= api.OpConst && r.fits(op, text) {
			need(len(r.line.Args) <= maxList, api.ErrMany)
			return r.line
		}
	}
	panic(api.ErrToken)
}

// fits reports whether the text is that of a right line with this operator, but for the number of its Args.
func (r *reader) fits(op int, text string) bool {
	r.line, r.rest = api.Line{Op: op}, text
	form := forms[op]
	for n := range len(form) {
		if !r.part(form[n]) {
			return false
		}
	}
	return r.rest == ""
}

// part reads what stands for a byte of a form.
func (r *reader) part(c byte) bool {
	if 'A' <= c && c <= 'Z' {
		return r.fields[c](r)
	}
	return r.skip(c)
}

func (r *reader) skip(c byte) bool {
	if r.rest == "" || r.rest[0] != c {
		return false
	}
	r.rest = r.rest[1:]
	return true
}

// name reads a name into one of the fields.
func (r *reader) name(field *string) bool {
	n := run(r.rest)
	*field, r.rest = r.rest[:n], r.rest[n:]
	return r.isName(*field)
}

func (r *reader) isName(s string) bool { return shaped(s) && !r.words[s] }

func (r *reader) readA() bool { return r.name(&r.line.A) }

func (r *reader) readB() bool { return r.name(&r.line.B) }

func (r *reader) readC() bool { return r.name(&r.line.C) }

func (r *reader) readName() bool { return r.name(&r.line.Name) }

func (r *reader) readArgs() bool {
	for r.skip(' ') {
		arg := ""
		if !r.name(&arg) {
			return false
		}
		r.line.Args = append(r.line.Args, arg)
	}
	return true
}

// readInt reads up to the next blank.
func (r *reader) readInt() bool {
	n := strings.IndexByte(r.rest, ' ')
	if n < 0 {
		n = len(r.rest)
	}
	v, ok := readInt(r.rest[:n])
	r.line.Const, r.rest = v, r.rest[n:]
	return ok
}

// readLiteral reads all that is left, as a literal may have blanks and ends its line.
func (r *reader) readLiteral() bool {
	v, ok := readLiteral(r.rest)
	r.line.Const, r.rest = v, ""
	return ok
}
