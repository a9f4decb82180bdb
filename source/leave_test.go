package source

import (
	"slices"
	"strconv"
	"strings"
	"testing"

	"facsimile/api"
)

// leaving is a program, whose functions are separated by `;` and their lines by commas, with what it prints, and how it ends.
type leaving struct{ what, text, want string }

// program returns the text of the program; its functions are main, f1, f2, ..
func (l leaving) program() string {
	var text []string
	for n, lines := range strings.Split(l.text, "; ") {
		name := "main"
		if n > 0 {
			name = "f" + strconv.Itoa(n)
		}
		text = append(text, "func "+name, strings.ReplaceAll(lines, ", ", "\n"), "endfunc")
	}
	return written(text...)
}

// leaves runs programs to their ends.
func leaves(t *testing.T, table []leaving) {
	t.Helper()
	for _, c := range table {
		p := parsed(t, c.program())
		m := begun(t, c.program(), rich(1))
		m.Run(1000)
		var got []string
		for _, e := range m.Events() {
			switch e.Kind {
			case api.EvPrint:
				got = append(got, e.Text)
			case api.EvEnd:
				got = append(got, "end "+e.Text)
				if e.Place != place(0, len(p.Funcs[0].Lines)) {
					t.Errorf("%s: ends at %v", c.what, e.Place)
				}
			default:
				got = append(got, strings.Replace(shown(e), " 0/0", "", 1))
			}
		}
		if strings.Join(got, ", ") != c.want {
			t.Errorf("%s: %q, not %q", c.what, got, c.want)
		}
	}
}

// P7.5: exceptions that are caught in their frames.
func TestCaught(t *testing.T) {
	leaves(t, []leaving{
		{"a throw", "x = 7, try, throw x, print x, catch e, print e, end, x = 'out', print x", "7, out, end nil"},
		{"a fault", "x = 7, try, y = x . x, print x, catch e, print e, end", "type, end nil"},
		{"an unset variable", "try, print y, catch e, print e, end", "unset, end nil"},
		{"nothing is thrown", "x = 7, try, print x, catch e, print e, end", "7, end nil"},
		{"the inner one of two", "x = 7, try, try, throw x, catch e, print e, end, x = 8, print x, catch d, print d, end", "7, 8, end nil"},
		{"thrown in a catch part", "x = 7, try, try, throw x, catch e, x = 8, throw x, end, catch e, print e, end", "8, end nil"},
		{"thrown once more", "x = 7, try, try, throw x, catch e, throw e, end, catch e, print e, end", "7, end nil"},
		{"thrown in a loop and an if", "b = true, while b, try, if b, throw b, end, catch b, print b, b = false, end, end", "true, end nil"},
		{"thrown in a finally part", "x = 7, try, try, finally, throw x, end, catch e, print e, end", "7, end nil"},
		{"the variable of the catch is read by the line", "e = 1, try, e = e / z, catch e, print e, end", "unset, end nil"},
		{"the variable of the line keeps its value", "e = 1, z = 0, try, e = e / z, catch f, print e, end", "1, end nil"},
		{"a value of another kind", "n = 2, a = array n, try, throw a, catch e, e = len e, print e, end", "2, end nil"},
		{"a finally after the catch", "x = 7, try, throw x, catch e, print e, finally, x = 'f', print x, end", "7, f, end nil"},
	})
}

// P7.5: exceptions through one and several finally parts, in which others take their place; the place is the first one.
func TestThrownThroughFinally(t *testing.T) {
	leaves(t, []leaving{
		{"one", "x = 7, try, throw x, finally, x = 'f', print x, end, print x", "f, fault 0.2 7"},
		{"from a catch part", "x = 7, try, throw x, catch e, x = 8, throw x, finally, x = 'f', print x, end", "f, fault 0.5 8"},
		{"two", "x = 7, try, try, throw x, finally, x = 'f', print x, end, finally, x = 'g', print x, end", "f, g, fault 0.3 7"},
		{"two, then caught", "x = 7, try, try, try, throw x, finally, x = 'f', print x, end, finally, x = 'g', print x, end, catch e, print e, end", "f, g, 7, end nil"},
		{"three, of which one is in a catch part", "x = 7, try, try, throw x, catch e, try, y = x / x, y = x . x, finally, x = 'f', print x, end, finally, x = 'g', print x, end, finally, x = 'h', print x, end", "f, g, h, fault 0.7 type"},
		{"another exception takes its place", "x = 7, try, throw x, finally, x = 8, throw x, end", "fault 0.5 8"},
		{"a fault takes its place, and goes through a finally part", "x = 7, try, try, throw x, finally, y = x . x, end, finally, print x, end", "7, fault 0.5 type"},
		{"a return takes its place", "x = 7, try, throw x, finally, return x, end", "end 7"},
		{"a return takes its place, and goes through a finally part", "x = 7, try, try, throw x, finally, return x, end, finally, x = 'f', print x, end", "f, end 7"},
		{"one that is caught in the finally part leaves it alone", "x = 7, try, throw x, finally, try, x = 8, throw x, catch e, print e, end, end", "8, fault 0.2 7"},
		{"one that is caught in the finally part, after a further one", "x = 7, try, throw x, finally, try, try, x = 8, throw x, finally, print x, end, catch e, print e, end, end", "8, 8, fault 0.2 7"},
		{"thrown once more at the end of a part within another part", "x = 7, try, throw x, finally, try, x = 8, throw x, finally, x = 'f', print x, end, end", "f, fault 0.6 8"},
		{"a loop in the finally part", "x = 2, one = 1, z = 0, b = true, try, throw x, finally, while b, print x, x = x - one, b = z < x, end, end", "2, 1, fault 0.5 2"},
	})
}

// P7.5: returns through one and several finally parts, in which others take their place.
func TestReturnedThroughFinally(t *testing.T) {
	leaves(t, []leaving{
		{"none", "x = 7, return x, print x", "end 7"},
		{"one with a catch, which does not catch it", "x = 7, try, return x, catch e, print e, end", "end 7"},
		{"one", "x = 7, try, return x, finally, x = 'f', print x, end, print x", "f, end 7"},
		{"one, behind a catch", "x = 7, try, return x, catch e, print e, finally, x = 'f', print x, end", "f, end 7"},
		{"from a catch part", "x = 7, try, throw x, catch e, x = 8, return x, finally, x = 'f', print x, end", "f, end 8"},
		{"two", "x = 7, try, try, return x, finally, x = 'f', print x, end, finally, x = 'g', print x, end", "f, g, end 7"},
		{"two, with a block between them", "x = 7, b = true, try, while b, try, return x, finally, x = 'f', print x, end, end, finally, x = 'g', print x, end", "f, g, end 7"},
		{"another return takes its place", "x = 7, try, return x, finally, x = 8, return x, end", "end 8"},
		{"another return takes its place, in an outer part", "x = 7, try, try, return x, finally, print x, end, finally, x = 8, return x, end", "7, end 8"},
		{"an exception takes its place", "x = 7, try, return x, finally, x = 8, throw x, end", "fault 0.5 8"},
		{"an exception takes its place, and is caught", "x = 7, try, try, return x, finally, x = 8, throw x, end, catch e, print e, end", "8, end nil"},
		{"an exception that is caught in the finally part leaves it alone", "x = 7, try, return x, finally, try, throw x, catch e, x = 8, print x, end, end", "8, end 7"},
		{"a return at the end of a part within another part", "x = 7, try, return x, finally, try, x = 8, return x, finally, x = 'f', print x, end, end", "f, end 8"},
		{"from a finally part with nothing pending", "x = 7, try, finally, return x, end", "end 7"},
		{"a finally part with nothing pending goes on", "x = 7, try, finally, print x, end, print x", "7, 7, end nil"},
		{"a part with nothing pending in a part with a return", "x = 7, try, return x, finally, try, finally, print x, end, x = 8, print x, end", "7, 8, end 7"},
	})
}

// P7.5: exceptions and returns that leave frames.
func TestLeftFrames(t *testing.T) {
	leaves(t, []leaving{
		{"caught in a lower frame", "try, x = call f1, catch e, print e, end; x = 7, throw x", "7, end nil"},
		{"caught two frames below, by the way of a finally part", "try, x = call f1, catch e, print e, end; try, x = call f2, finally, x = 'f', print x, end; x = 7, throw x", "f, 7, end nil"},
		{"nobody catches it", "x = call f1, print x; x = call f2; y = 1, x = y . y", "fault 2.1 type"},
		{"nobody catches it, and finally parts run in all frames", "try, x = call f1, finally, x = 'f', print x, end; try, x = call f2, finally, x = 'g', print x, end; y = 1, try, x = y . y, finally, x = 'h', print x, end", "h, g, f, fault 2.2 type"},
		{"thrown from a finally part of a lower frame", "try, x = call f1, finally, x = 'f', throw x, end; x = 7, throw x", "fault 0.4 f"},
		{"a return of a lower frame takes its place", "x = 5, try, x = call f1, finally, return x, end; x = 7, throw x", "end 5"},
		{"the result is left alone", "x = 5, try, x = call f1, catch e, print x, end; x = 7, throw x", "5, end nil"},
		{"a return through finally parts completes the call", "x = call f1, print x; try, try, x = 7, return x, finally, y = 'f', print y, end, finally, y = 'g', print y, end", "f, g, 7, end nil"},
		{"a call completes at the end of a loop", "b = true, while b, b = call f1, end, print b; b = false, return b", "false, end nil"},
		{"a call is the last line", "x = call f1; x = call f2; x = 7, return x", "end nil"},
		{"a call in a finally part keeps what is pending", "x = 7, try, throw x, finally, y = call f1, print y, end; y = 8, try, return y, finally, print y, end", "8, 8, fault 0.2 7"},
		{"caught in a finally part of a lower frame", "x = 7, try, return x, finally, try, y = call f1, catch e, print e, end, end; y = 8, throw y", "8, end 7"},
		{"an end in a try returns nil", "x = call f1, print x; try, x = 7, finally, print x, end", "7, nil, end nil"},
		{"the exceptions of a loop", "i = 0, one = 1, two = 2, b = true, while b, try, i = i + one, x = call f1, catch e, print e, print i, end, b = i < two, end; throw z", "unset, 1, unset, 2, end nil"},
	})
}

// pendings returns what is pending in the top frame of the first thread after these steps of main with these lines.
func pendings(t *testing.T, steps int, lines ...string) []api.Pending {
	t.Helper()
	m := begun(t, mainOf(lines...), rich(1))
	m.Run(steps)
	return m.Image().Threads[0].Frames[0].Pend
}

// P7.4, P7.5: what is pending after each step.
func TestPending(t *testing.T) {
	nothing := api.Pending{}
	thrown := api.Pending{Kind: api.PendThrow, Value: integer(7), Place: place(0, 3)}
	again := api.Pending{Kind: api.PendThrow, Value: str("type"), Place: place(0, 6)}
	returned := api.Pending{Kind: api.PendReturn, Value: integer(7)}
	lines := []string{"x = 7", "try", "try", "throw x", "finally", "try", "y = x . x", "finally", "y = x", "end", "end", "finally", "y = x", "end"}
	for steps, want := range [][]api.Pending{
		nil, nil, nil, nil, {thrown}, {thrown}, {thrown, again}, {thrown, again}, {again}, {again},
	} {
		if got := pendings(t, steps, lines...); !slices.Equal(got, want) {
			t.Errorf("after %d steps: %v, not %v", steps, got, want)
		}
	}
	lines[3], lines[6] = "return x", "y = x"
	for steps, want := range [][]api.Pending{
		nil, nil, nil, nil, {returned}, {returned}, {returned}, {returned, nothing}, {returned, nothing}, {returned}, {returned}, {returned},
	} {
		if got := pendings(t, steps, lines...); !slices.Equal(got, want) {
			t.Errorf("after %d steps: %v, not %v", steps, got, want)
		}
	}
	lines[3], lines[6], lines[8] = "y = x", "y = x", "return x"
	for steps, want := range [][]api.Pending{
		nil, nil, nil, nil, nil, {nothing}, {nothing}, {nothing}, {nothing, nothing}, {returned}, {returned},
	} {
		if got := pendings(t, steps, lines...); !slices.Equal(got, want) {
			t.Errorf("after %d steps: %v, not %v", steps, got, want)
		}
	}
	// A catch in a finally part keeps what is pending around it.
	lines = []string{"x = 7", "try", "try", "throw x", "finally", "try", "y = x . x", "catch y", "print y", "end", "end", "finally", "y = x", "end"}
	for steps, want := range [][]api.Pending{
		nil, nil, nil, nil, {thrown}, {thrown}, {thrown}, {thrown}, {thrown},
	} {
		if got := pendings(t, steps, lines...); !slices.Equal(got, want) {
			t.Errorf("after %d steps: %v, not %v", steps, got, want)
		}
	}
}

// P7.5: events of threads that end have their threads and tenants, and show the value as it is then.
func TestEndsOfThreads(t *testing.T) {
	text := written("class c", "func main", "spawn 1 f", "spawn 1 g", "o = new c", "return o", "endfunc", "func f", "n = 4", "a = array n", "throw a", "endfunc", "func g", "k = bind h", "x = call h k", "endfunc", "func h k", "throw k", "endfunc")
	happens(t, "ends", text, rich(2), "end 0/0 0.4 <c>", "fault 1/1 1.2 <array 4>", "fault 2/1 3.0 <closure h>")
}
