package live

import (
	"math/rand/v2"
	"slices"
	"strings"
	"testing"

	"facsimile/api"
)

// step is a way from a line to another one, which is known when all lines are there, and the variable that is written on it.
type step struct {
	to     *int
	writes string
}

// around says where an exception and a return go from a part: the first line of a catch part or a finally part, or nil.
type around struct {
	throw, giveBack *int
	caught          string
}

// model is a function that is written at random, block by block; the ways of its lines are those that its blocks have, so that neither Ends nor Parent are needed.
type model struct {
	r     *rand.Rand
	uses  []use
	steps [][]step
	owed  int // lines that the blocks around still need
}

func (m *model) texts() []string {
	var list []string
	for _, u := range m.uses {
		list = append(list, u.line)
	}
	return list
}

func (m *model) variable() string { return string([]byte{"abcdef"[m.r.IntN(6)]}) }

// line adds a line, and its ways to a catch and a finally.
func (m *model) line(u use, out around) int {
	n := len(m.uses)
	m.uses = append(m.uses, u)
	m.steps = append(m.steps, nil)
	if !slices.Contains(silent(), u.op) {
		m.leave(n, out.throw, out.caught)
	}
	if u.op == api.OpReturn {
		m.leave(n, out.giveBack, "")
	}
	return n
}

func (m *model) leave(n int, to *int, writes string) {
	if to != nil {
		m.steps[n] = append(m.steps[n], step{to, writes})
	}
}

// here is the number of the line that is added next.
func (m *model) here() *int {
	n := len(m.uses)
	return &n
}

// falls lets control go on to the line that is added next.
func (m *model) falls(n int, writes string) { m.leave(n, m.here(), writes) }

// simple adds a line that is in no block.
func (m *model) simple(out around) {
	x, y, z := m.variable(), m.variable(), m.variable()
	all := []use{
		{op: api.OpConst, line: x + " = 'a'", writes: x},
		{op: api.OpMove, line: x + " = " + y, reads: y, writes: x},
		{op: api.OpMod, line: x + " = " + y + " % " + z, reads: y + " " + z, writes: x},
		{op: api.OpGet, line: x + " = " + y + "." + z, reads: y, writes: x},
		{op: api.OpSet, line: x + "." + z + " = " + y, reads: x + " " + y},
		{op: api.OpPut, line: x + "[" + y + "] = " + z, reads: x + " " + y + " " + z},
		{op: api.OpCall, line: x + " = call h " + y + " " + z, reads: y + " " + z, writes: x},
		{op: api.OpSend, line: x + " = send " + y + " f " + z, reads: y + " " + z, writes: x},
		{op: api.OpPrint, line: "print " + x, reads: x},
		{op: api.OpInput, line: x + " = input", writes: x},
		{op: api.OpYield, line: "yield"},
		{op: api.OpThrow, line: "throw " + x, reads: x},
		{op: api.OpReturn, line: "return " + x, reads: x},
	}
	u := all[m.r.IntN(len(all))]
	n := m.line(u, out)
	if u.op != api.OpThrow && u.op != api.OpReturn {
		m.falls(n, u.writes)
	}
}

// part adds some lines and blocks.
func (m *model) part(out around) {
	for range m.r.IntN(4) {
		if len(m.uses)+m.owed+4 > api.MaxLines {
			return
		}
		m.owed += 3
		blocks := []func(around){m.simple, m.simple, m.simple, m.choice, m.loop, m.attempt}
		blocks[m.r.IntN(len(blocks))](out)
		m.owed -= 3
	}
}

func (m *model) choice(out around) {
	c := m.variable()
	first := m.line(use{op: api.OpIf, line: "if " + c, reads: c}, out)
	m.falls(first, "")
	m.part(out)
	before := -1
	if m.r.IntN(2) == 0 {
		before = m.line(use{op: api.OpElse, line: "else"}, out)
		m.falls(first, "")
		m.part(out)
	}
	end := m.line(use{op: api.OpEnd, line: "end"}, out)
	m.falls(end, "")
	if before >= 0 {
		m.falls(before, "")
	} else {
		m.falls(first, "")
	}
}

func (m *model) loop(out around) {
	c := m.variable()
	first := m.line(use{op: api.OpWhile, line: "while " + c, reads: c}, out)
	m.falls(first, "")
	m.part(out)
	end := m.line(use{op: api.OpEnd, line: "end"}, out)
	m.leave(end, &first, "")
	m.falls(first, "")
}

func (m *model) attempt(out around) {
	caught := m.variable()
	kind := m.r.IntN(3) // catch, finally, or both
	catches, last := kind != 1, kind != 0
	catchPart, finalPart := new(int), new(int)
	inCatch := out
	if last {
		inCatch = around{throw: finalPart, giveBack: finalPart}
	}
	inTry := inCatch
	if catches {
		inTry.throw, inTry.caught = catchPart, caught
	}
	m.falls(m.line(use{op: api.OpTry, line: "try"}, out), "")
	m.part(inTry)
	skips := -1
	if catches {
		skips = m.line(use{op: api.OpCatch, line: "catch " + caught}, out)
		*catchPart = skips + 1
		m.part(inCatch)
	}
	if last {
		if catches {
			m.falls(skips, "")
		}
		n := m.line(use{op: api.OpFinally, line: "finally"}, out)
		*finalPart = n + 1
		m.falls(n, "")
		m.part(out)
	}
	end := m.line(use{op: api.OpEnd, line: "end"}, out)
	m.falls(end, "")
	if last {
		m.leave(end, out.throw, out.caught)
		m.leave(end, out.giveBack, "")
	} else {
		m.falls(skips, "")
	}
}

// isRead follows all ways from a line on which a variable is not written, and reports whether one of them leads to a line that reads it.
func (m *model) isRead(name string, line int, seen map[int]bool) bool {
	if line >= len(m.uses) || seen[line] {
		return false
	}
	seen[line] = true
	if slices.Contains(strings.Fields(m.uses[line].reads), name) {
		return true
	}
	return m.isReadAfter(name, line, seen)
}

func (m *model) isReadAfter(name string, line int, seen map[int]bool) bool {
	for _, s := range m.steps[line] {
		if s.writes != name && m.isRead(name, *s.to, seen) {
			return true
		}
	}
	return false
}

// written returns a model of at most 60 lines, and a program with it as function 0.
func written(t *testing.T, seed uint64) (*model, api.Program) {
	t.Helper()
	m := &model{r: rand.New(rand.NewPCG(5, seed))}
	for range 1 + m.r.IntN(12) {
		m.part(around{})
	}
	return m, mainOf(t, m.texts()...)
}

// P5.1, P5.4: functions that are written at random, against a search along all ways.
func TestAgainstModel(t *testing.T) {
	longest := 0
	for seed := range uint64(800) {
		m, p := written(t, seed)
		longest = max(longest, len(m.uses))
		i := info(t, p)
		before, across := Before(p, i, 0), Across(p, i, 0)
		if len(before) != len(m.uses)+1 || len(across) != len(m.uses) {
			t.Fatalf("%d and %d rows for %q", len(before), len(across), m.texts())
		}
		for slot, name := range i.Slots[0] {
			for line := range before {
				if want := m.isRead(name, line, map[int]bool{}); before[line][slot] != want {
					t.Fatalf("%s before line %d: %t in %q", name, line, !want, m.texts())
				}
			}
			for line := range across {
				if want := m.isReadAfter(name, line, map[int]bool{}); across[line][slot] != want {
					t.Fatalf("%s across line %d: %t in %q", name, line, !want, m.texts())
				}
				m.follows(t, name, line, before[line][slot], across[line][slot])
			}
		}
	}
	if longest < 55 {
		t.Errorf("the longest function has %d lines", longest)
	}
}

// follows checks P5.4 for a variable at a line.
func (m *model) follows(t *testing.T, name string, line int, before, across bool) {
	t.Helper()
	u := m.uses[line]
	if slices.Contains(strings.Fields(u.reads), name) && !before {
		t.Errorf("line %d %q reads %s, which is not live before it", line, u.line, name)
	}
	if across && u.writes != name && !before {
		t.Errorf("%s is live across line %d %q, but not before it", name, line, u.line)
	}
}
