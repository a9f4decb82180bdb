package interp

import (
	"testing"

	"facsimile/api"
	"facsimile/check"
	"facsimile/source"
)

// hasHeat checks the heat of all lines of a program, and of lines around them; those that are not in the map have none.
func hasHeat(t *testing.T, what string, m *Machine, p api.Program, want map[api.Place]int) {
	t.Helper()
	for fun := -2; fun < len(p.Funcs)+2; fun++ {
		for line := -2; line < api.MaxLines+2; line++ {
			if got := m.Heat(place(fun, line)); got != want[place(fun, line)] {
				t.Errorf("%s: Heat of {%d, %d} is %d, want %d", what, fun, line, got, want[place(fun, line)])
			}
		}
	}
	for _, at := range []api.Place{{Fun: 1 << 62}, {Line: 1 << 62}, {Fun: -1 << 63, Line: -1 << 63}} {
		if got := m.Heat(at); got != 0 {
			t.Errorf("%s: Heat of %v is %d", what, at, got)
		}
	}
}

const counted = "n = 3; z = 0; o = 1; c = true; while c; n = n - o; c = z < n; end"

// P13.3: how often control has gone from the end of a while to this while.
func TestHeat(t *testing.T) {
	for text, want := range map[string]map[api.Place]int{
		"func main; endfunc": nil,
		// The example: a while with three rounds, the last of which goes back as well.
		"func main; " + counted + "; endfunc":                                                   {{Line: 4}: 3},
		"func main; c = false; while c; end; endfunc":                                           nil,
		"func main; c = true; while c; c = false; end; endfunc":                                 {{Line: 1}: 1},
		"func main; c = true; while c; return c; end; endfunc":                                  nil,
		"func main; c = true; while c; throw c; end; endfunc":                                   nil,
		"func main; while c; end; endfunc":                                                      nil,
		"func main; c = 1; while c; end; endfunc":                                               nil,
		"func main; c = true; if c; yield; end; while c; c = false; end; while c; end; endfunc": {{Line: 4}: 1},
		// One in another, whose lines before the end are ends, too.
		"func main; n = 2; z = 0; o = 1; c = true; while c; d = true; while d; if d; d = false; end; end; n = n - o; c = z < n; end; endfunc": {{Line: 4}: 2, {Line: 6}: 2},
		"func main; c = true; d = true; while c; if c; c = d; try; d = false; catch e; end; else; end; end; endfunc":                          {{Line: 2}: 2},
		"func main; c = true; while c; c = false; while c; end; end; while c; end; endfunc":                                                   {{Line: 1}: 1},
		"func main; c = true; while c; try; throw c; catch e; c = false; end; end; endfunc":                                                   {{Line: 1}: 1},
		"func main; c = true; while c; try; c = false; finally; yield; end; end; endfunc":                                                     {{Line: 1}: 1},
		"func main; c = true; d = true; while c; try; while d; throw d; end; catch e; c = false; end; end; endfunc":                           {{Line: 2}: 1},
		// A while that is left by a return in the second round, through a finally part with a while.
		"func main; c = false; d = true; while d; if c; try; return c; finally; while c; c = false; end; end; end; c = true; end; endfunc": {{Line: 2}: 1, {Line: 7}: 1},
		// In a function that is called twice, and in two threads.
		"func main; x = call f; x = call f; spawn 0 f; spawn 0 f; endfunc; func f; " + counted + "; yield; endfunc":                          {{Fun: 1, Line: 4}: 12},
		"func main; spawn 0 f; c = true; while c; yield; c = false; end; endfunc; func f; c = true; while c; yield; c = false; end; endfunc": {{Line: 2}: 1, {Fun: 1, Line: 1}: 1},
		"func main; c = true; while c; c = false; x = call f; end; endfunc; func f; c = true; while c; c = false; end; endfunc":              {{Line: 1}: 1, {Fun: 1, Line: 1}: 1},
		"func main; c = true; while c; c = false; x = call f; end; endfunc; func f; c = true; while c; d = c / c; end; endfunc":              nil,
	} {
		p := parsed(t, text)
		m := begun(t, p, rich(1))
		hasHeat(t, text, m, p, nil)
		m.Run(1000)
		hasHeat(t, text, m, p, want)
	}
}

// P13.3: the step that goes back is that of the end, and no other one; a tenant without fuel does not go back.
func TestHeatStepByStep(t *testing.T) {
	p := parsed(t, "func main; "+counted+"; endfunc")
	m := begun(t, p, rich(1))
	for n, want := range []int{0, 0, 0, 0, 0, 0, 0, 0, 1, 1, 1, 1, 2, 2, 2, 2, 3, 3} {
		if got := m.Heat(place(0, 4)); got != want {
			t.Errorf("the heat is %d after %d lines, want %d", got, n, want)
		}
		m.Step()
	}
	for fuel := range 20 {
		w := rich(1)
		w.Fuel[0] = fuel
		m := begun(t, p, w)
		m.Run(100)
		if got, want := m.Heat(place(0, 4)), min(max(fuel-4, 0)/4, 3); got != want {
			t.Errorf("the heat is %d with the fuel %d, want %d", got, fuel, want)
		}
	}
}

// P13.3: the count begins with Load, and is that of the machine alone.
func TestHeatSinceLoad(t *testing.T) {
	p := parsed(t, "func main; "+counted+"; endfunc")
	c, w := compiled(t, p), rich(1)
	for steps := range 18 {
		first := begun(t, p, w)
		first.Run(steps)
		second := loaded(t, p, c, w, first.Image())
		before := first.Heat(place(0, 4))
		hasHeat(t, "at first", second, p, nil)
		second.Run(100)
		hasHeat(t, "loaded", second, p, map[api.Place]int{{Line: 4}: 3 - before})
		hasHeat(t, "not run further", first, p, map[api.Place]int{{Line: 4}: before})
	}
}

// P13.3: the heat is the same with all codes, also where an instruction has the end of a while and the while itself.
func TestHeatOfOtherCodes(t *testing.T) {
	text := "func main; c = true; while c; yield; c = false; end; endfunc"
	p := parsed(t, text)
	c := changed(t, p, func(f *api.CodeFunc) {
		// const (0), BFalse (1), yield (2), const (3), and then a second round: BFalse (4, 1), yield (2), const (3), BJump (4).
		back := f.Ins[4]
		again := f.Ins[1]
		again.Lines = []int{4, 1}
		f.Ins = append(f.Ins[:4], again, f.Ins[2], f.Ins[3], back)
		f.Ins[1].A, f.Ins[4].A = 8, 8
	})
	for _, step := range []int{0, 3, 4, 5, 6} {
		whole := begun(t, p, rich(1))
		whole.Run(step)
		m := loaded(t, p, c, rich(1), whole.Image())
		m.Run(100)
		hasHeat(t, text, m, p, map[api.Place]int{{Line: 1}: 1 - whole.Heat(place(0, 1))})
	}
}

// P13.3: random programs, against the lines of the source.
func TestRandomHeat(t *testing.T) {
	t.Parallel()
	total := 0
	for seed := range uint64(80) {
		p, w, r := random(t, 2000+seed)
		i := info(t, p)
		s, _ := source.New(p, w)
		machines := []*Machine{begun(t, p, w), loaded(t, p, variedCode(t, r, p), w, source.Begin(p, w))}
		want := map[api.Place]int{}
		for {
			before := s.Image()
			if !s.Step() {
				break
			}
			for _, m := range machines {
				m.Step()
			}
			top := topOf(before)
			line := p.Funcs[top.Fun].Lines[top.Line]
			paid := s.Image().Steps > before.Steps
			if begins := i.Ends[top.Fun][top.Line]; paid && line.Op == api.OpEnd && p.Funcs[top.Fun].Lines[begins].Op == api.OpWhile {
				want[place(top.Fun, begins)]++
				total++
			}
		}
		for _, m := range machines {
			hasHeat(t, "a random program", m, p, want)
		}
	}
	if total < 300 {
		t.Errorf("control goes back only %d times", total)
	}
}

// topOf returns the top frame of the thread that runs.
func topOf(m api.Image) api.Frame {
	for _, t := range m.Threads {
		if t.Id == m.Now {
			return t.Frames[len(t.Frames)-1]
		}
	}
	return api.Frame{}
}

// valueOf returns the value of a variable of a frame; nothing for an empty name.
func valueOf(i api.Info, f api.Frame, name string) api.Value {
	if slot := check.Slot(i, f.Fun, name); slot >= 0 {
		return f.Vars[slot]
	}
	return api.Value{}
}
