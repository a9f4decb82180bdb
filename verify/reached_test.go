package verify

import (
	"math"
	"math/rand/v2"
	"slices"
	"testing"

	"facsimile/api"
)

// ways returns a function with instructions that go on in this way: 'n' to the next one, 'r' and 't' nowhere, 'j' and 'f' also to the next of the numbers.
func ways(steps string, to ...int) api.CodeFunc {
	var f api.CodeFunc
	for _, step := range steps {
		ins := api.Instr{Op: map[rune]int{'n': api.OpYield, 'r': api.OpReturn, 't': api.OpThrow, 'j': api.BJump, 'f': api.BFalse}[step], A: 1 << 40}
		if step == 'j' || step == 'f' {
			ins.A, to = to[0], to[1:]
		}
		f.Ins = append(f.Ins, ins)
	}
	return f
}

// marks returns a text with a 1 for each true element, and a 0 for each false one.
func marks(list []bool) string {
	s := ""
	for _, b := range list {
		s += map[bool]string{true: "1", false: "0"}[b]
	}
	return s
}

// reaches checks which instructions of a function are reached, wherever it is in a code.
func reaches(t *testing.T, what string, f api.CodeFunc, want string) {
	t.Helper()
	other := ways("rnn")
	for fun := range 3 {
		c := api.Code{Funcs: []api.CodeFunc{other, other, other}}
		c.Funcs[fun] = f
		for n := range c.Funcs {
			w := "100"
			if n == fun {
				w = want
			}
			if got := marks(Reached(c, n)); got != w {
				t.Errorf("%s: %s, want %s", what, got, w)
			}
		}
	}
}

// P10.1: instructions that go on at the next one, jump, and end.
func TestReached(t *testing.T) {
	reaches(t, "nothing", ways(""), "")
	reaches(t, "one", ways("n"), "1")
	reaches(t, "a row", ways("nnnn"), "1111")
	reaches(t, "a return", ways("nrnn"), "1100")
	reaches(t, "a throw", ways("ntnn"), "1100")
	reaches(t, "a jump", ways("jnn", 2), "101")
	reaches(t, "a jump back", ways("nnjn", 1), "1110")
	reaches(t, "a jump to itself", ways("jn", 0), "10")
	reaches(t, "a jump to the next one", ways("jn", 1), "11")
	reaches(t, "a condition", ways("frnn", 3), "1101")
	reaches(t, "a condition that jumps back", ways("nnfr", 0), "1111")
	reaches(t, "a condition at the end", ways("jrnf", 3, 2), "1011")
	reaches(t, "jumps to and fro", ways("jrjrjr", 4, 1, 2), "111010")
	reaches(t, "loops that are not reached", ways("rjnj", 3, 1), "1000")
	reaches(t, "a loop behind an end", ways("rnj", 0), "100")
}

// P10.1: jumps that lead nowhere.
func TestReachedJumpsNowhere(t *testing.T) {
	for _, to := range []int{-1, -2, 3, 4, math.MinInt, math.MaxInt} {
		reaches(t, "a jump", ways("jnn", to), "100")
		reaches(t, "a condition", ways("frn", to), "110")
		reaches(t, "the last instruction", ways("nnf", to), "111")
	}
	reaches(t, "the last instruction but one", ways("nfr", 3), "111")
}

// P10.1: all operators go on at the next instruction, but three; A leads from two of them alone.
func TestReachedOperators(t *testing.T) {
	for op := -3; op < 120; op++ {
		f := ways("nrnn")
		f.Ins[0].Op, f.Ins[0].A = op, 3
		want := "1100"
		switch op {
		case api.BJump:
			want = "1001"
		case api.BFalse:
			want = "1101"
		case api.OpThrow, api.OpReturn:
			want = "1000"
		}
		reaches(t, "operator", f, want)
	}
}

// with returns a function with handlers, each with From, To and Target.
func with(f api.CodeFunc, handlers ...[3]int) api.CodeFunc {
	for n, h := range handlers {
		f.Handlers = append(f.Handlers, api.Handler{From: h[0], To: h[1], Target: h[2], Slot: n - 2, Finally: n%2 == 0})
	}
	return f
}

// P10.1: the targets of handlers.
func TestReachedHandlers(t *testing.T) {
	reaches(t, "of the first one", with(ways("rrr"), [3]int{0, 1, 2}), "101")
	reaches(t, "of the second one", with(ways("nrrr"), [3]int{1, 2, 3}), "1101")
	reaches(t, "of the last one", with(ways("jrr", 2), [3]int{2, 3, 1}), "111")
	reaches(t, "of one in the middle", with(ways("jrrrr", 2), [3]int{1, 4, 4}), "10101")
	reaches(t, "of one before", with(ways("jrr", 2), [3]int{0, 2, 1}), "111")
	reaches(t, "of none, which end before it", with(ways("jrr", 2), [3]int{1, 2, 1}), "101")
	reaches(t, "of none, which begin behind it", with(ways("rrr"), [3]int{1, 3, 2}), "100")
	reaches(t, "without instructions", with(ways("nnrr"), [3]int{1, 1, 3}, [3]int{2, 1, 3}, [3]int{0, 0, 3}), "1110")
	reaches(t, "far beyond", with(ways("rr"), [3]int{math.MinInt, math.MaxInt, 1}), "11")
	reaches(t, "turned around", with(ways("rr"), [3]int{math.MaxInt, math.MinInt, 1}), "10")
	reaches(t, "before all", with(ways("rr"), [3]int{math.MinInt, 0, 1}, [3]int{-5, -1, 1}), "10")
	reaches(t, "behind all", with(ways("rr"), [3]int{2, math.MaxInt, 1}, [3]int{math.MaxInt, math.MaxInt, 1}), "10")
	reaches(t, "of themselves", with(ways("rrr"), [3]int{1, 2, 1}), "100")
	reaches(t, "in a row", with(ways("rrrrr"), [3]int{2, 3, 4}, [3]int{1, 2, 2}, [3]int{0, 1, 1}), "11101")
	reaches(t, "several of one", with(ways("rrrr"), [3]int{0, 1, 1}, [3]int{0, 1, 3}), "1101")
	reaches(t, "one of several", with(ways("nnnrr"), [3]int{0, 3, 4}), "11111")
	reaches(t, "what they lead to goes on", with(ways("rnjnr", 4), [3]int{0, 1, 1}), "11101")
	reaches(t, "without any instructions", with(ways(""), [3]int{0, 1, 0}, [3]int{math.MinInt, math.MaxInt, -1}), "")
}

// P10.1: handlers that lead nowhere.
func TestReachedHandlersNowhere(t *testing.T) {
	for _, to := range []int{-1, 3, 4, math.MinInt, math.MaxInt} {
		reaches(t, "a handler", with(ways("rrr"), [3]int{0, 3, to}), "100")
		reaches(t, "two handlers", with(ways("rrr"), [3]int{0, 3, to}, [3]int{0, 1, 2}), "101")
	}
}

// P10.1: nothing for numbers of no function; the number of names does not matter.
func TestReachedNoFunction(t *testing.T) {
	c := api.Code{Names: []string{"a", "b", "c", "d", "e"}, Funcs: []api.CodeFunc{ways("nn"), ways("jn", 0), {}}}
	for _, fun := range []int{-1, 3, 4, math.MinInt, math.MaxInt} {
		if got := Reached(c, fun); len(got) > 0 {
			t.Errorf("Reached of %d = %v", fun, got)
		}
	}
	c.Names = nil
	for fun, want := range []string{"11", "10", ""} {
		if got := marks(Reached(c, fun)); got != want {
			t.Errorf("Reached of %d = %s, want %s", fun, got, want)
		}
	}
	if got := Reached(api.Code{}, 0); len(got) > 0 {
		t.Errorf("Reached of nothing = %v", got)
	}
}

// reachedBySweeps is Reached as the chapter says it: a set that grows as long as something can be added.
func reachedBySweeps(f api.CodeFunc) []bool {
	set := make([]bool, len(f.Ins))
	grows := false
	add := func(n int) {
		if 0 <= n && n < len(set) && !set[n] {
			set[n], grows = true, true
		}
	}
	for add(0); grows; {
		grows = false
		for n, ins := range f.Ins {
			if !set[n] {
				continue
			}
			switch ins.Op {
			case api.BJump:
				add(ins.A)
			case api.BFalse:
				add(n + 1)
				add(ins.A)
			case api.OpThrow, api.OpReturn:
			default:
				add(n + 1)
			}
			for _, h := range f.Handlers {
				if h.From <= n && h.To > n {
					add(h.Target)
				}
			}
		}
	}
	return set
}

// P10.1: random functions that are no program's, against the sweeps.
func TestReachedOfRandomFunctions(t *testing.T) {
	r := rand.New(rand.NewPCG(10, 1))
	some := 0
	for range 30000 {
		size := r.IntN(20)
		number := func() int { return r.IntN(size+6) - 3 }
		var f api.CodeFunc
		for range size {
			op := []int{api.OpYield, api.OpReturn, api.OpThrow, api.BJump, api.BJump, api.BFalse}[r.IntN(6)]
			f.Ins = append(f.Ins, api.Instr{Op: op, A: number()})
		}
		for range r.IntN(6) {
			f = with(f, [3]int{number(), number(), number()})
		}
		got := Reached(api.Code{Funcs: []api.CodeFunc{f}}, 0)
		if !slices.Equal(got, reachedBySweeps(f)) {
			t.Fatalf("%+v: %s", f, marks(got))
		}
		if n := len(got); n > 4 && slices.Contains(got[n/2:], true) && slices.Contains(got[:n/2], false) {
			some++
		}
	}
	if some < 1000 {
		t.Errorf("only %d functions are reached in part", some)
	}
}

// R5: functions far beyond all limits, whose instructions are reached one after the other, by jumps, falls and handlers.
func TestReachedOfLargeFunctions(t *testing.T) {
	const many = 200000
	row := api.CodeFunc{Ins: make([]api.Instr, many), Handlers: make([]api.Handler, many)}
	back := api.CodeFunc{Ins: make([]api.Instr, many)}
	handled := api.CodeFunc{Ins: make([]api.Instr, many)}
	turned := api.CodeFunc{Ins: make([]api.Instr, many)}
	covered := api.CodeFunc{Ins: make([]api.Instr, many)}
	back.Ins[0] = api.Instr{Op: api.BJump, A: many - 1}
	for n := range many {
		if n > 0 {
			back.Ins[n] = api.Instr{Op: api.BJump, A: n - 1}
		}
		handled.Ins[n].Op, turned.Ins[n].Op, covered.Ins[n].Op = api.OpReturn, api.OpReturn, api.OpReturn
		handled = with(handled, [3]int{n, n + 1, n + 1})
		turned = with(turned, [3]int{many - n - 1, many - n, many - n})
		covered = with(covered, [3]int{0, n, n})
	}
	c := api.Code{Funcs: []api.CodeFunc{row, back, handled, turned, covered}}
	for fun := range c.Funcs {
		if got := Reached(c, fun); len(got) != many || slices.Contains(got, false) {
			t.Errorf("function %d: not all of %d are reached", fun, len(got))
		}
	}
}
