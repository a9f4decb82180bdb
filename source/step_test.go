package source

import (
	"math"
	"slices"
	"strconv"
	"strings"
	"testing"

	"facsimile/api"
)

// mainOf returns the text of a program with a function main alone.
func mainOf(lines ...string) string {
	return written(append(append([]string{"func main"}, lines...), "endfunc")...)
}

// fuelled returns a rich world with this fuel.
func fuelled(fuel ...int) api.World {
	w := rich(len(fuel))
	w.Fuel = fuel
	return w
}

// The examples of the chapter.
func TestExamples(t *testing.T) {
	w := fuelled(9)
	happens(t, "print", mainOf("x = 1", "print x"), w, "print 0/0 0.1 1", "end 0/0 0.2 nil")
	happens(t, "zero", mainOf("x = 1", "y = 0", "z = x / y"), w, "fault 0/0 0.2 zero")
	happens(t, "finally", mainOf("try", "x = 1", "return x", "finally", "print x", "end"), w, "print 0/0 0.4 1", "end 0/0 0.6 1")
	m := happens(t, "loop", mainOf("x = true", "while x", "end"), w, "fuel 0/0 0.1")
	if image := m.Image(); image.Steps != 9 || image.Fuel[0] != 0 {
		t.Errorf("the loop: %+v", image)
	}
}

// P7.3: fuel of 0, fuel that is just enough, and one less.
func TestFuel(t *testing.T) {
	text := mainOf("x = 1", "x = 2", "print x")
	for fuel, want := range [][]string{
		{"fuel 0/0 0.0"}, {"fuel 0/0 0.1"}, {"fuel 0/0 0.2"}, {"print 0/0 0.2 2", "end 0/0 0.3 nil"}, {"print 0/0 0.2 2", "end 0/0 0.3 nil"},
	} {
		m := begun(t, text, fuelled(fuel))
		steps := min(fuel+1, 3)
		if n := m.Run(100); n != steps {
			t.Errorf("%d steps with the fuel %d", n, fuel)
		}
		sameEvents(t, "fuel "+strconv.Itoa(fuel), m, want...)
		lines := min(fuel, 3)
		isImage(t, "fuel "+strconv.Itoa(fuel), m.Image(), api.Image{Born: 1, Now: -1, Steps: lines, Fuel: []int{fuel - lines}, Used: []int{0}})
	}
}

// P7.3: a thread whose tenant has no fuel is removed, with all of its frames, and others go on; nothing is charged for it, and there is no epoch.
func TestFuelOfTenants(t *testing.T) {
	text := written("func main", "spawn 1 f", "spawn 0 g", "yield", "yield", "endfunc", "func f", "x = call g", "endfunc", "func g", "try", "print a", "finally", "print b", "end", "endfunc")
	w := fuelled(20, 1)
	w.Choices = []int{1, 1, 2}
	w.Epoch = 4
	m := begun(t, text, w)
	m.Run(4)
	if image := m.Image(); image.Now != 1 || len(image.Threads[1].Frames) != 2 || len(m.Events()) != 1 {
		t.Fatalf("before: %+v", image)
	}
	want := m.Image()
	want.Threads = slices.Delete(want.Threads, 1, 2)
	want.Now, want.Choice = 2, 2
	if !m.Step() {
		t.Error("no step")
	}
	isImage(t, "without fuel", m.Image(), want)
	sameEvents(t, "without fuel", m, "epoch -1/0 0.0 0 0", "fuel 1/1 2.0")
}

// P7.3: Run steps at most n times.
func TestRun(t *testing.T) {
	text := mainOf("x = true", "while x", "end")
	for _, c := range []struct{ n, want int }{{math.MinInt, 0}, {-1, 0}, {0, 0}, {1, 1}, {7, 7}, {10, 10}, {11, 11}, {12, 11}, {math.MaxInt, 11}} {
		m := begun(t, text, fuelled(10))
		if n := m.Run(c.n); n != c.want {
			t.Errorf("Run(%d) = %d", c.n, n)
		}
		one := begun(t, text, fuelled(10))
		for range c.want {
			if !one.Step() {
				t.Error("no step")
			}
		}
		isImage(t, "step by step", one.Image(), m.Image())
		if one.Step() != (c.want < 11) {
			t.Errorf("a step after %d", c.want)
		}
	}
	m := begun(t, text, fuelled(10))
	if m.Run(4) != 4 || m.Run(4) != 4 || m.Run(4) != 3 || m.Run(4) != 0 {
		t.Error("Run several times")
	}
}

// route returns at which lines a function stands, one after the other, as long as it has only one frame.
func route(t *testing.T, text string) []int {
	t.Helper()
	m := begun(t, text, rich(1))
	var lines []int
	for range 40 {
		image := m.Image()
		if len(image.Threads) == 0 {
			break
		}
		lines = append(lines, image.Threads[0].Frames[0].Line)
		m.Step()
	}
	return lines
}

// P7.3: control goes on as check.Next says, and, with a false condition, as check.Skip says.
func TestControl(t *testing.T) {
	for _, c := range []struct {
		lines []string
		want  []int
	}{
		{[]string{"x = true", "if x", "y = 1", "else", "y = 2", "end", "print y"}, []int{0, 1, 2, 3, 6}},
		{[]string{"x = false", "if x", "y = 1", "else", "y = 2", "end", "print y"}, []int{0, 1, 4, 5, 6}},
		{[]string{"x = false", "if x", "y = 1", "end", "print x"}, []int{0, 1, 4}},
		{[]string{"x = false", "if x", "end"}, []int{0, 1}},
		{[]string{"x = true", "if x", "else", "end"}, []int{0, 1, 2}},
		{[]string{"x = true", "while x", "x = false", "end", "print x"}, []int{0, 1, 2, 3, 1, 4}},
		{[]string{"x = false", "while x", "end", "print x"}, []int{0, 1, 3}},
		{[]string{"x = 1", "try", "print x", "catch e", "print e", "finally", "print x", "end", "print x"}, []int{0, 1, 2, 3, 5, 6, 7, 8}},
		{[]string{"x = 1", "try", "print x", "catch e", "print e", "end", "print x"}, []int{0, 1, 2, 3, 6}},
		{[]string{"x = 1", "try", "throw x", "catch e", "print e", "end", "print x"}, []int{0, 1, 2, 4, 5, 6}},
		{[]string{"x = 1", "try", "throw x", "catch e", "print e", "finally", "print x", "end", "print x"}, []int{0, 1, 2, 4, 5, 6, 7, 8}},
		{[]string{"x = 1", "try", "throw x", "finally", "print x", "end", "print x"}, []int{0, 1, 2, 4, 5}},
		{[]string{"x = 1", "yield", "return x", "print x"}, []int{0, 1, 2}},
	} {
		if got := route(t, mainOf(c.lines...)); !slices.Equal(got, c.want) {
			t.Errorf("%q: lines %v, not %v", c.lines, got, c.want)
		}
	}
}

// P7.3: a new frame begins at line 0, the frame below keeps its line; at the end of a function nil is returned, from as many frames as are at their ends.
func TestFrames(t *testing.T) {
	text := written("func main", "x = 1", "y = call f x x", "print y", "endfunc", "func f a b", "z = a", "b = call g b", "endfunc", "func g c", "print c", "endfunc")
	m := begun(t, text, rich(1))
	frame := func(fun, line int, vars ...api.Value) api.Frame { return api.Frame{Fun: fun, Line: line, Vars: vars} }
	one := integer(1)
	for n, frames := range [][]api.Frame{
		{frame(0, 0, unset, unset)},
		{frame(0, 1, one, unset)},
		{frame(0, 1, unset, unset), frame(1, 0, one, one, unset)},
		{frame(0, 1, unset, unset), frame(1, 1, unset, one, unset)},
		{frame(0, 1, unset, unset), frame(1, 1, unset, unset, unset), frame(2, 0, one)},
		{frame(0, 2, unset, null)},
		nil,
	} {
		want := api.Image{Born: 1, Now: -1, Steps: n, Fuel: []int{1000 - n}, Used: []int{0}}
		if frames != nil {
			want.Now, want.Threads = 0, []api.Thread{{Frames: frames}}
		}
		isImage(t, "after "+strconv.Itoa(n)+" steps", m.Image(), want)
		if m.Step() != (frames != nil) {
			t.Errorf("step number %d", n)
		}
	}
	sameEvents(t, "calls", m, "print 0/0 2.0 1", "print 0/0 0.2 nil", "end 0/0 0.3 nil")
}

// P7.3: functions without lines return nil at once.
func TestCallsOfFunctionsWithoutLines(t *testing.T) {
	text := written("func main", "x = call f", "print x", "y = call g", "print y", "x = call f", "endfunc", "func f", "endfunc", "func g", "x = 3", "x = call f", "endfunc")
	m := happens(t, "without lines", text, fuelled(7), "print 0/0 0.1 nil", "print 0/0 0.3 nil", "end 0/0 0.5 nil")
	if steps := m.Image().Steps; steps != 7 {
		t.Errorf("%d steps", steps)
	}
}

// P7.3: the variables that are not live become unset in all frames of the thread.
func TestDeadVariables(t *testing.T) {
	text := written("func main", "x = 1", "y = x", "z = call f x y", "print y", "endfunc", "func f a b", "b = 2", "print b", "endfunc")
	m := begun(t, text, rich(1))
	one, two := integer(1), integer(2)
	for n, want := range [][][]api.Value{
		{{unset, unset, unset}},
		{{one, unset, unset}},
		{{one, one, unset}},
		{{unset, one, unset}, {unset, unset}},
		{{unset, one, unset}, {unset, two}},
		{{unset, one, unset}},
	} {
		var got [][]api.Value
		for _, f := range m.Image().Threads[0].Frames {
			got = append(got, f.Vars)
		}
		if !slices.EqualFunc(got, want, slices.Equal[[]api.Value]) {
			t.Errorf("after %d steps: %v, not %v", n, got, want)
		}
		m.Step()
	}
}

// P7.3: an epoch comes after each line whose number is a multiple of Epoch, after the end of a thread, and before the next thread is chosen.
func TestEpochsAfterLines(t *testing.T) {
	text := written("func main", "spawn 1 f", "n = 1", "yield", "endfunc", "func f", "y = 1", "x = array y", "x = y", "return y", "endfunc")
	for _, c := range []struct {
		epoch int
		want  []string
	}{
		{0, []string{"end 0/0 0.3 nil", "end 1/1 1.4 1"}},
		{1, []string{"epoch -1/0 0.0 0 0", "epoch -1/0 0.0 0 0", "end 0/0 0.3 nil", "epoch -1/0 0.0 0 0", "epoch -1/0 0.0 0 0", "epoch -1/0 0.0 0 0", "epoch -1/0 0.0 0 0", "end 1/1 1.4 1", "epoch -1/0 0.0 0 0"}},
		{2, []string{"epoch -1/0 0.0 0 0", "end 0/0 0.3 nil", "epoch -1/0 0.0 0 0", "epoch -1/0 0.0 0 0", "end 1/1 1.4 1"}},
		{3, []string{"end 0/0 0.3 nil", "epoch -1/0 0.0 0 0", "epoch -1/0 0.0 0 0", "end 1/1 1.4 1"}},
		{5, []string{"end 0/0 0.3 nil", "epoch -1/0 0.0 0 0", "end 1/1 1.4 1"}},
		{7, []string{"end 0/0 0.3 nil", "end 1/1 1.4 1", "epoch -1/0 0.0 0 0"}},
		{8, []string{"end 0/0 0.3 nil", "end 1/1 1.4 1"}},
	} {
		w := rich(2)
		w.Epoch = c.epoch
		happens(t, "epoch "+strconv.Itoa(c.epoch), text, w, c.want...)
	}
}

// P7.3: a finaliser that an epoch starts after the last line of the only thread is chosen next.
func TestEpochBeforeChoice(t *testing.T) {
	w := rich(1)
	w.Epoch = 2
	text := written("class c", "func main", "x = new c", "final x f", "endfunc", "func f", "y = 5", "print y", "endfunc")
	happens(t, "at the end", text, w, "end 0/0 0.2 nil", "final 1/0 1.0", "epoch -1/0 0.0 0", "print 1/0 1.1 5", "end 1/0 1.2 nil", "epoch -1/0 0.0 0")
	w.Choices = []int{1}
	text = written("class c", "func main", "x = call g", "yield", "print x", "endfunc", "func f", "y = 5", "print y", "endfunc", "func g", "x = new c", "final x f", "endfunc")
	w.Epoch = 4
	happens(t, "at a yield", text, w, "final 1/0 1.0", "epoch -1/0 0.0 0", "print 1/0 1.1 5", "end 1/0 1.2 nil", "print 0/0 0.2 nil", "end 0/0 0.3 nil")
}

// waiting returns an image with threads of these ids at a yield, of which one runs.
func waiting(now int, ids ...int) api.Image {
	m := api.Image{Now: now, Born: 100, Fuel: []int{9}, Used: []int{0}}
	for _, id := range ids {
		m.Threads = append(m.Threads, api.Thread{Id: id, Frames: []api.Frame{{Fun: 0}}})
	}
	return m
}

// P7.3: the next thread after a yield, by the next of the choices, which may be negative, or too great, or not there any more.
func TestChoices(t *testing.T) {
	text := mainOf("yield", "yield", "yield", "yield")
	for _, c := range []struct{ choice, want int }{
		{0, 2}, {1, 5}, {2, 7}, {3, 2}, {4, 5}, {5, 7}, {6, 2}, {1000000000, 5},
		{-1, 7}, {-2, 5}, {-3, 2}, {-4, 7}, {-5, 5}, {-6, 2}, {-1000000000, 7},
	} {
		for _, now := range []int{2, 5, 7} {
			w := fuelled(9)
			w.Choices = []int{8, c.choice, 1, 2}
			image := waiting(now, 2, 5, 7)
			image.Choice = 1
			m := loaded(t, text, w, image)
			m.Step()
			if got := m.Image(); got.Now != c.want || got.Choice != 2 || got.Born != 100 || len(got.Threads) != 3 {
				t.Errorf("choice %d: %+v", c.choice, got)
			}
		}
	}
}

// P7.3: without choices it is the first thread; the only thread takes none.
func TestNoChoices(t *testing.T) {
	text := mainOf("yield", "yield", "yield", "yield")
	for _, c := range []struct {
		choices []int
		taken   int
		ids     []int
		want    int
		then    int
	}{
		{nil, 0, []int{2, 5, 7}, 2, 0},
		{[]int{1, 2}, 2, []int{2, 5, 7}, 2, 2},
		{[]int{1, 2}, 1, []int{2, 5, 7}, 7, 2},
		{[]int{1, 2}, 0, []int{7}, 7, 0},
		{nil, 0, []int{7}, 7, 0},
	} {
		w := fuelled(9)
		w.Choices = c.choices
		image := waiting(7, c.ids...)
		image.Choice = c.taken
		m := loaded(t, text, w, image)
		m.Step()
		if got := m.Image(); got.Now != c.want || got.Choice != c.then {
			t.Errorf("choices %v from %d on: %+v", c.choices, c.taken, got)
		}
	}
}

// P7.3: a thread is chosen when one has ended, by its end, an exception, or without fuel, and after a yield, but not after other lines.
func TestWhenChosen(t *testing.T) {
	for _, c := range []struct {
		lines []string
		fuel  int
		now   int
	}{
		{[]string{"yield", "print y"}, 9, 5}, {[]string{"x = 1", "print y"}, 9, 2}, {[]string{"x = clock", "print y"}, 9, 2}, {[]string{"try", "finally", "end", "print y"}, 9, 2},
		{[]string{"x = call f", "print y"}, 9, 2}, {[]string{"spawn 0 f", "print y"}, 9, 2}, {[]string{"try", "throw y", "catch e", "print e", "end"}, 9, 2},
		{[]string{"return y"}, 9, 5}, {[]string{"throw y"}, 9, 5}, {[]string{"print z", "print y"}, 9, 5}, {[]string{"print y"}, 9, 5}, {[]string{"yield"}, 9, 5},
		{[]string{"yield", "print y"}, 0, 5}, {[]string{"x = 1", "print y"}, 0, 5},
	} {
		text := written("func main", strings.Join(c.lines, "\n"), "endfunc", "func f", "x = 1", "endfunc")
		slots := info(t, parsed(t, text)).Slots[0]
		image := waiting(2, 1, 2, 5)
		image.Fuel[0] = c.fuel
		for n := range image.Threads {
			image.Threads[n].Frames[0].Vars = make([]api.Value, len(slots))
		}
		if y := slices.Index(slots, "y"); y >= 0 {
			image.Threads[1].Frames[0].Vars[y] = yes
		}
		w := fuelled(c.fuel)
		w.Choices = []int{-1, 2}
		m := loaded(t, text, w, image)
		m.Step()
		if got := m.Image(); got.Now != c.now || got.Choice != map[int]int{2: 0, 5: 1}[c.now] {
			t.Errorf("%q with the fuel %d: %+v", c.lines, c.fuel, got)
		}
	}
}

// P7.3: a thread that has ended is not chosen; two threads are left, and then one, which takes no choice.
func TestChoicesOfLess(t *testing.T) {
	text := written("func main", "spawn 0 f", "spawn 0 f", "yield", "x = 'main'", "print x", "endfunc", "func f", "x = 'f'", "print x", "endfunc")
	w := rich(1)
	w.Choices = []int{5, -1, 9}
	m := happens(t, "three threads", text, w, "print 2/0 1.1 f", "end 2/0 1.2 nil", "print 1/0 1.1 f", "end 1/0 1.2 nil", "print 0/0 0.4 main", "end 0/0 0.5 nil")
	if image := m.Image(); image.Choice != 2 || image.Now != -1 || image.Born != 3 {
		t.Errorf("at the end: %+v", image)
	}
}

// P1: Steps, Born and the next id may wrap around; then nothing is promised but that there is no panic.
func TestWrapAround(t *testing.T) {
	text := written("class c x", "method m g", "func main", "spawn 0 main", "o = new c", "n = 2", "r = array n", "k = bind g o", "w = weak o", "final k h", "o.x = k", "o.y = w", "r[n] = o", "yield", "e = o",
		"try", "r = bind g r", "w = weak w", "a = apply k", "a = apply r", "catch e", "print e", "end", "a = send o m", "print w", "yield", "endfunc",
		"func g o", "o = o.x", "print o", "yield", "return o", "endfunc", "func h", "x = new c", "yield", "endfunc")
	slots := len(info(t, parsed(t, text)).Slots[0])
	for steps := range 6 {
		for next := range 8 {
			w := fuelled(500)
			w.Epoch, w.Limit = steps, []int{80 + 40*next}
			w.Choices = []int{1, 2, 3, 4, 5, 6}
			image := waiting(5, 5)
			image.Threads[0].Frames[0].Vars = make([]api.Value, slots)
			image.Steps, image.Born, image.Next, image.Fuel = math.MaxInt-steps, math.MaxInt-1, math.MaxInt-next, []int{500}
			m := loaded(t, text, w, image)
			for m.Step() {
				m.Image()
			}
		}
	}
}

// P1: an id that is no longer that of a right ref.
func TestGreatIds(t *testing.T) {
	text := "func g x\nendfunc\n" + mainOf("n = 1", "a = array n", "b = array n", "i = 0", "b[i] = a", "w = weak b", "k = bind g b", "k = weak k", "print a", "print b", "a = deref w", "print a", "print k", "c = a == b", "print c")
	for next := 1000000000 - 3; next < 1000000000+3; next++ {
		m := loaded(t, text, rich(1), api.Image{
			Threads: []api.Thread{{Frames: []api.Frame{{Fun: 1, Vars: make([]api.Value, len(info(t, parsed(t, text)).Slots[1]))}}}},
			Born:    1, Next: next, Fuel: []int{100}, Used: []int{0},
		})
		for m.Step() {
			m.Image()
		}
	}
}
