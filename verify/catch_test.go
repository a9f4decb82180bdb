package verify

import (
	"math"
	"slices"
	"strconv"
	"testing"

	"facsimile/api"
	"facsimile/check"
)

// both has a line that throws, a return and an end that is in a try part, with a catch and a finally around them.
// print (0 1), return (2 3), enter (4), leave (5), jump (6), yield (7), print (8), enter (9), leave (10), print (11)
const both = "try; print a; try; return a; finally; end; catch e; yield; print e; finally; end; print a"

// spread gives each instruction handlers of its own.
func spread(f *api.CodeFunc) {
	var all []api.Handler
	for n := range f.Ins {
		all = append(all, handlersOf(*f, n)...)
	}
	f.Handlers = all
}

// handlersOf returns the handlers for an instruction, as handlers for it alone.
func handlersOf(f api.CodeFunc, n int) []api.Handler {
	var all []api.Handler
	for _, h := range f.Handlers {
		if h.From <= n && n < h.To {
			h.From, h.To = n, n+1
			all = append(all, h)
		}
	}
	return all
}

// handlers are the programs of which all handlers are changed.
func handlers() []string {
	return []string{
		both,
		"try; print a; catch e; print e; end",
		"try; print a; finally; print b; end",
		"try; return a; catch e; return e; finally; return b; end",
		"try; try; throw a; finally; throw b; end; catch e; throw e; end",
		"print a; try; try; print a; try; x = y; finally; return x; end; catch e; return e; end; finally; print b; end; return b",
		"try; if a; try; return a; finally; yield; end; end; while b; throw b; end; catch e; try; print e; finally; print a; end; finally; return a; end",
	}
}

// asks returns whether handlers matter for exceptions and for returns from an instruction of main.
func asks(p api.Program, ins api.Instr) (throws, returns bool) {
	op := p.Funcs[0].Lines[last(ins)].Op
	return check.Throws(op) || ins.Op == api.BLeave, op == api.OpReturn || ins.Op == api.BLeave
}

// P10.2 (ErrCatch): each handler, where it is the first one for exceptions or returns from an instruction, is missing, or changed.
func TestChangedHandlers(t *testing.T) {
	matter, others := 0, 0
	for _, lines := range handlers() {
		accepts(t, "handlers of their own", lines, spread)
		p := mainOf(t, lines)
		f := compiled(t, p).Funcs[0]
		for n, ins := range f.Ins {
			throws, returns := asks(p, ins)
			for k, h := range handlersOf(f, n) {
				if throws && k == 0 || returns && h.Finally && !slices.ContainsFunc(handlersOf(f, n)[:k], func(h api.Handler) bool { return h.Finally }) {
					matter++
					changeHandler(t, lines, n, h, true)
				} else {
					others++
					changeHandler(t, lines, n, h, false)
				}
			}
		}
	}
	if matter < 15 || others < 15 {
		t.Errorf("%d handlers matter, and %d do not", matter, others)
	}
}

// changeHandler changes a handler of an instruction in all ways.
func changeHandler(t *testing.T, lines string, n int, handler api.Handler, matters bool) {
	t.Helper()
	expect := func(what string, matters bool, change func(all []api.Handler, k int) []api.Handler) {
		t.Helper()
		edit := func(f *api.CodeFunc) {
			spread(f)
			f.Handlers = change(f.Handlers, slices.Index(f.Handlers, handler))
		}
		if matters {
			refuses(t, what, lines, edit, n, api.ErrCatch)
		} else {
			accepts(t, what, lines, edit)
		}
	}
	set := func(what string, matters bool, change func(h *api.Handler)) {
		t.Helper()
		expect(what, matters, func(all []api.Handler, k int) []api.Handler {
			change(&all[k])
			return all
		})
	}
	expect("no handler", matters, func(all []api.Handler, k int) []api.Handler { return slices.Delete(all, k, k+1) })
	set("before it", matters, func(h *api.Handler) { h.From, h.To = -5, 0 })
	set("nowhere", matters, func(h *api.Handler) { h.To = h.From })
	for _, slot := range []int{handler.Slot - 1, handler.Slot + 1, math.MinInt, math.MaxInt} {
		set("another slot", matters, func(h *api.Handler) { h.Slot = slot })
	}
	for to := range 12 {
		if to != handler.Target && matters {
			set("another target", true, func(h *api.Handler) { h.Target = to })
		}
	}
	for _, to := range farAway(12) {
		set("a target far away", matters, func(h *api.Handler) { h.Target = to })
	}
	if matters {
		set("another Finally", true, func(h *api.Handler) { h.Finally = !h.Finally })
		expect("another handler before it", true, func(all []api.Handler, k int) []api.Handler {
			return slices.Insert(all, 0, api.Handler{From: n, To: n + 1, Target: n, Finally: handler.Finally, Slot: handler.Slot})
		})
	}
	expect("the same handler twice", false, func(all []api.Handler, k int) []api.Handler { return slices.Insert(all, k, all[k]) })
}

// P10.2 (ErrCatch): handlers of instructions from which exceptions leave the function: the first one, one in the middle, the last one.
func TestTooManyHandlers(t *testing.T) {
	for _, line := range []string{"print a", "x = y", "throw a", "return a", "if a; end", "while a; end", "try; finally; end"} {
		lines := line + "; " + line + "; " + line
		p := mainOf(t, lines)
		f := compiled(t, p).Funcs[0]
		for n, ins := range f.Ins {
			throws, returns := asks(p, ins)
			for target := -1; target < len(f.Ins)+2; target++ {
				for _, finally := range []bool{false, true} {
					add := func(f *api.CodeFunc) {
						f.Handlers = append(f.Handlers, api.Handler{From: n, To: n + 1, Target: target, Slot: -1, Finally: finally})
					}
					if throws || returns && finally {
						refuses(t, "a handler of "+strconv.Itoa(n), lines, add, n, api.ErrCatch)
					} else {
						accepts(t, "a handler of "+strconv.Itoa(n), lines, add)
					}
				}
			}
		}
	}
}

// P10.2 (ErrCatch): a return in a part without a finally, which a handler with Finally keeps back; the exception goes where it should.
func TestReturnKeptBack(t *testing.T) {
	const lines = "try; return a; catch e; return e; end; return a"
	for n, add := range []api.Handler{{Slot: -1, Finally: true}, {Slot: -1, Finally: true, Target: 2}, {Finally: true, Target: 99}} {
		refuses(t, "handler "+strconv.Itoa(n), lines, func(f *api.CodeFunc) {
			add.To = 1
			f.Handlers = append(f.Handlers, add)
		}, 0, api.ErrCatch)
		accepts(t, "without Finally", lines, func(f *api.CodeFunc) {
			add.To, add.Finally = 1, false
			f.Handlers = append(f.Handlers, add)
		})
	}
}

// P10.2 (ErrCatch): the end of a block with a finally, from which a return goes elsewhere than an exception.
func TestEndsOfFinally(t *testing.T) {
	accepts(t, "nothing", both, unchanged)
	is := func(h api.Handler) func(f *api.CodeFunc) {
		return func(f *api.CodeFunc) {
			// It is for the instruction 3, the end of the inner block.
			f.Handlers = slices.Insert(f.Handlers, 0, h)
		}
	}
	refuses(t, "the exception, in another slot", both, is(api.Handler{From: 3, To: 4, Target: 5, Slot: 0}), 3, api.ErrCatch)
	refuses(t, "the exception, to another line", both, is(api.Handler{From: 3, To: 4, Target: 6, Slot: 1}), 3, api.ErrCatch)
	refuses(t, "the exception, to the end", both, is(api.Handler{From: 3, To: 4, Target: 10, Slot: 1}), 3, api.ErrCatch)
	refuses(t, "the exception, where the return goes", both, is(api.Handler{From: 3, To: 4, Target: 8, Slot: -1, Finally: true}), 3, api.ErrCatch)
	for what, h := range map[string]api.Handler{
		"the return, in a slot":       {From: 3, To: 4, Target: 8, Slot: 1, Finally: true},
		"the return, to another line": {From: 3, To: 4, Target: 7, Slot: -1, Finally: true},
		"the return, to the end":      {From: 3, To: 4, Target: 10, Slot: -1, Finally: true},
	} {
		refuses(t, what, both, func(f *api.CodeFunc) {
			is(h)(f)
			is(api.Handler{From: 3, To: 4, Target: 5, Slot: 1})(f)
		}, 3, api.ErrCatch)
	}
	accepts(t, "both as before", both, func(f *api.CodeFunc) {
		is(api.Handler{From: 3, To: 4, Target: 8, Slot: -1, Finally: true})(f)
		is(api.Handler{From: 3, To: 4, Target: 5, Slot: 1})(f)
	})
	refuses(t, "both turned around", both, func(f *api.CodeFunc) {
		is(api.Handler{From: 3, To: 4, Target: 5, Slot: 1})(f)
		is(api.Handler{From: 3, To: 4, Target: 8, Slot: -1, Finally: true})(f)
	}, 3, api.ErrCatch)
}

// P10.2 (ErrCatch): handlers in another order.
func TestOrderOfHandlers(t *testing.T) {
	refuses(t, "a finally before its catch", "try; print a; catch e; print e; finally; print a; end", func(f *api.CodeFunc) {
		f.Handlers[0], f.Handlers[1] = f.Handlers[1], f.Handlers[0]
	}, 0, api.ErrCatch)
	refuses(t, "an outer block before an inner one", "try; try; print a; catch e; print e; end; catch e; print e; end", func(f *api.CodeFunc) {
		slices.Reverse(f.Handlers)
	}, 0, api.ErrCatch)
	accepts(t, "blocks that are apart", "try; print a; catch e; print e; end; try; print a; catch e; print e; end", func(f *api.CodeFunc) {
		slices.Reverse(f.Handlers)
	})
	accepts(t, "a finally before a catch, from which none comes", "try; print a; catch e; print e; finally; print a; end", func(f *api.CodeFunc) {
		f.Handlers[0], f.Handlers[2] = f.Handlers[2], f.Handlers[0]
		f.Handlers[1], f.Handlers[2] = f.Handlers[2], f.Handlers[1]
	})
}

// P10.2 (ErrCatch): the Target begins with other lines than that behind the clause, or with none.
func TestTargetOfHandler(t *testing.T) {
	// print (0 1), jump (2), nop (3 4): the catch part begins with an end that waits.
	const lines = "try; print a; catch e; if e; end; end"
	accepts(t, "nothing", lines, unchanged)
	for _, j := range []api.Instr{junk(), junk(77), junk(2, 3), instr(api.BNop, 2), junk(-1)} {
		refuses(t, "another one", lines, func(f *api.CodeFunc) {
			f.Ins = append(f.Ins, j)
			f.Handlers[0].Target = len(f.Ins) - 1
		}, 0, api.ErrCatch)
	}
	// The number of all instructions begins with the end of the function.
	refuses(t, "the end", "try; print a; catch e; end", func(f *api.CodeFunc) { f.Handlers[0].Target = len(f.Ins) }, 0, api.ErrCatch)
}

// P10.2: from lines that do not throw no handler is asked for.
func TestHandlersThatDoNotMatter(t *testing.T) {
	for _, line := range []string{"x = 1", "x = input", "x = clock", "yield"} {
		lines := line + "; try; " + line + "; catch e; end; " + line
		accepts(t, "none", lines, func(f *api.CodeFunc) { f.Handlers = nil })
		accepts(t, "for all", lines, func(f *api.CodeFunc) {
			f.Handlers = []api.Handler{{To: 99, Target: 2, Slot: 7}, {To: 99, Target: -1}, {From: -9, To: 99, Target: 99, Slot: -8, Finally: true}}
		})
	}
	// The target is reached, and looked at.
	refuses(t, "with a wrong target", "yield; return a", func(f *api.CodeFunc) {
		f.Ins = append(f.Ins, junk(1))
		f.Handlers = []api.Handler{{To: 1, Target: 2}}
	}, 2, api.ErrCode)
}
