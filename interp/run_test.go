package interp

import (
	"math/rand/v2"
	"slices"
	"strconv"
	"testing"

	"facsimile/api"
	"facsimile/source"
)

// programs returns texts of programs that have, together, every kind of line.
func programs() []string {
	loop := "func main; i = 3; one = 1; zero = 0; c = true; while c; "
	next := "i = i - one; c = zero < i; end; "
	return []string{
		"func main; endfunc",
		"func main; try; try; x = 1; y = 0; z = x / y; print z; catch e; print e; end; finally; print x; end; endfunc",
		"func main; a = nil; b = true; c = 'it''s'; d = -7; e = d; f = not b; g = neg d; h = d + g; h = d - g; h = d * g; h = d / g; h = d % g; l = d < g; l = c < c; l = d == c; l = b and f; l = b or f; s = c . c; print s; print h; print l; print a; endfunc",
		loop + "try; x = i / zero; catch e; print e; end; try; x = one + c; catch e; print e; end; try; x = q; catch e; print e; end; try; x = not i; catch e; print e; end; try; x = neg c; catch e; print e; end; " + next + "print q; endfunc",
		loop + "try; if i; end; catch e; print e; end; try; while e; end; catch e; print e; end; try; if q; end; catch e; print e; end; " + next + "if c; print one; else; print zero; end; endfunc",
		// Returns and exceptions through finally parts, one in another, and those that take the place of others.
		"func main; x = call f; print x; x = call g; print x; x = call h; print x; try; x = call k; catch e; print e; end; x = call l; print x; endfunc; " +
			"func f; try; x = 1; return x; finally; print x; end; endfunc; " +
			"func g; try; x = 1; return x; finally; y = 2; return y; end; endfunc; " +
			"func h; x = 1; try; try; throw x; finally; return x; end; catch e; print e; end; return e; endfunc; " +
			"func k; x = 1; try; try; return x; finally; throw x; end; finally; print x; end; endfunc; " +
			"func l; x = 3; try; try; try; return x; finally; print x; end; finally; try; throw x; catch e; print e; end; end; catch e; print e; finally; yield; end; endfunc",
		"func main; x = 'a'; try; try; throw x; catch e; y = e . x; throw y; finally; print x; end; catch e; print e; finally; print e; end; try; print x; finally; print e; end; return e; endfunc",
		"func main; x = 1; try; try; try; throw x; finally; print x; end; finally; x = 2; print x; end; finally; x = 3; print x; end; endfunc",
		"func main; try; x = 1; y = 0; x = x / y; finally; print y; end; endfunc",
		// Blocks in blocks in finally parts.
		"func main; b = true; y = 'y'; try; throw b; finally; if b; try; throw y; catch e; print e; end; try; try; throw y; finally; while b; try; throw y; catch e; print e; b = false; end; end; try; if y; end; catch e; print e; finally; print b; end; end; catch f; print f; end; end; end; endfunc",
		"func main; b = true; x = call f b; print x; b = false; x = call f b; print x; endfunc; func f b; y = 'y'; c = true; try; try; return y; finally; while c; c = b; try; try; return c; finally; if b; b = false; throw b; else; yield; end; end; catch e; print e; finally; if c; return e; end; end; end; end; finally; print b; end; endfunc",
		// Calls in tail positions, and those that wait in the middle of a function.
		"func main; x = call f; endfunc; func f; try; x = call g; finally; end; endfunc; func g; if x; end; endfunc",
		"func main; n = 4; x = call f n; print x; x = call g n; endfunc; func f n; one = 1; c = one < n; if c; n = n - one; x = call f n; return x; else; return n; end; endfunc; func g n; one = 1; c = one < n; if c; n = n - one; x = call g n; else; throw n; end; endfunc",
		"func main; try; x = call main; catch e; print e; y = 1; throw y; end; endfunc",
		"func main; x = call f; y = call f; return y; endfunc; func f; endfunc",
		// Closures.
		"func main; a = 2; f = bind add a; v = apply f a; print v; print f; g = bind add; v = apply g a v; print v; try; w = apply f; catch e; print e; end; try; w = apply a; catch e; print e; end; h = bind add a a; w = apply h; print w; try; w = apply q; catch e; print e; end; try; w = apply f q; catch e; print e; end; endfunc; func add x y; z = x + y; return z; endfunc",
		// Classes.
		"class P x; method get getx; method put putx; class Q; func main; p = new P; a = 5; p.x = a; v = send p get; print v; v = send p put a; print v; q = new Q; q.x = p; q.y = q; v = q.x; print v; v = q.y; print p; print q; try; v = send q get; catch e; print e; end; try; v = send a get; catch e; print e; end; try; v = send p get a; catch e; print e; end; try; v = q.z; catch e; print e; end; try; v = a.z; catch e; print e; end; try; a.z = v; catch e; print e; end; try; p.x = u; catch e; print e; end; try; v = u.x; catch e; print e; end; try; v = send p put u; catch e; print e; end; endfunc; " +
			"func getx self; v = self.x; return v; endfunc; func putx self v; self.x = v; w = send self get; endfunc",
		"class P; method m f; func main; p = new P; try; x = send p m; catch e; print e; end; endfunc; func f self; x = send self m; endfunc",
		// Arrays.
		"func main; n = 3; a = array n; i = 1; a[i] = n; v = a[i]; print v; l = len a; print l; s = 'four'; l = len s; print l; a[i] = a; v = a[i]; print v; try; v = a[l]; catch e; print e; end; try; a[l] = v; catch e; print e; end; try; a[s] = v; catch e; print e; end; try; v = s[i]; catch e; print e; end; try; s[i] = v; catch e; print e; end; endfunc",
		"func main; n = 3; a = array n; s = 'x'; i = 1; try; l = len i; catch e; print e; end; i = -1; try; v = a[i]; catch e; print e; end; try; v = array i; catch e; print e; end; i = 65; try; v = array i; catch e; print e; end; i = 64; v = array i; l = len v; print l; try; v = array s; catch e; print e; end; try; a[u] = v; catch e; print e; end; endfunc",
		// Weak cells and finalisers.
		"class C; func main; o = new C; w = weak o; final o bye; final w bye; d = deref w; print d; print w; o = nil; d = nil; yield; d = deref w; print d; try; x = weak d; catch e; print e; end; try; x = deref e; catch e; print e; end; try; final d bye; catch e; print e; end; n = 64; a = array n; a = array n; a = array n; print a; endfunc; func bye; s = 'bye'; print s; endfunc",
		"class C; func main; n = 20; one = 1; c = true; while c; o = new C; final o f; final o g; n = n - one; c = one < n; end; o = nil; yield; yield; yield; endfunc; func f; yield; yield; endfunc; func g; endfunc",
		// What the source does not determine.
		"func main; a = input; b = input; c = input; d = clock; e = clock; f = clock; print a; print b; print c; print d; print e; print f; endfunc",
		// Threads.
		"func main; a = 7; spawn 1 f a; spawn 0 g; yield; spawn 0 f a; spawn 1 h; try; spawn 2 h; catch e; print e; end; yield; try; spawn -1 h; catch e; print e; end; print a; try; spawn 0 f u; catch e; print e; end; endfunc; func f n; print n; yield; try; yield; throw n; finally; yield; end; endfunc; func g; x = true; while x; yield; end; endfunc; func h; endfunc",
		"func main; c = true; while c; try; spawn 0 f; catch e; print e; c = false; end; end; yield; endfunc; func f; yield; x = 1; return x; endfunc",
		"func main; a = 1; spawn 1 f a; spawn 0 f a; spawn 1 f a; yield; print a; endfunc; func f n; m = 8; x = array m; m = m - n; y = array m; yield; z = array m; print z; print x; yield; print y; endfunc",
		// Many idle lines, and jumps over many ends.
		loop + "try; try; if c; try; if c; else; end; catch e; end; else; yield; end; catch e; finally; try; catch e; end; end; catch e; if c; end; end; " + next + "endfunc",
		loop + "d = true; while d; d = not c; if d; else; if c; while d; end; end; end; end; try; while d; d = false; end; catch e; end; " + next + "print i; endfunc",
		"func main; b = true; if b; try; try; return b; finally; end; catch e; end; end; print b; return b; yield; print b; endfunc",
		"func main; return x; yield; y = 1; print y; try; y = y / y; finally; end; endfunc",
	}
}

// worlds returns worlds in which things run out, or do not.
func worlds() []api.World {
	some := rich(2)
	some.Inputs, some.Clocks, some.Choices = []api.Value{str("in"), {Kind: api.Nil}}, []int{-5, 6}, []int{1, -1, 0, 7, -3, 2, 1}
	var all []api.World
	for _, epoch := range []int{0, 1, 2, 7} {
		for _, limit := range [][]int{{api.MaxLimit, api.MaxLimit}, {600, 100}, {40, 0}} {
			w := some
			w.Epoch, w.Limit = epoch, limit
			all = append(all, w)
		}
	}
	return all
}

// P13.2: programs with every kind of line, step by step like the source, with the code that Compile returns and with others.
func TestPrograms(t *testing.T) {
	t.Parallel()
	m := met{}
	for n, text := range programs() {
		p := parsed(t, text)
		r := rand.New(rand.NewPCG(14, uint64(n)))
		for _, w := range worlds() {
			two := begunPair(t, p, w)
			two.run(500)
			m.events(two.source.Events())
			loadedPair(t, p, variedCode(t, r, p), w, source.Begin(p, w)).run(300)
		}
	}
	m.has(t, 1, "print", "fault", "end", "final", "epoch")
	m.has(t, 1, "text type", "text unset", "text zero", "text field", "text bounds", "text range", "text bytes", "text arity", "text method", "text tenant", "text threads", "text stack")
}

// P13.2, P13.6: from any image between two lines, also one in the middle of an instruction, a machine goes on like the source.
func TestAnyImage(t *testing.T) {
	t.Parallel()
	middle := 0
	for n, text := range programs() {
		p := parsed(t, text)
		r := rand.New(rand.NewPCG(15, uint64(n)))
		c, other := compiled(t, p), variedCode(t, r, p)
		for k, w := range worlds() {
			if k != n%len(worlds()) {
				continue
			}
			s, e := source.New(p, w)
			if e != api.OK {
				t.Fatal(e)
			}
			for range 90 {
				image := s.Image()
				two := loadedPair(t, p, c, w, image)
				for _, th := range two.machine.threads {
					if th.top().k > 0 {
						middle++
					}
				}
				two.run(3)
				two.machine.Run(60)
				two.source.Run(60)
				two.alike()
				two = loadedPair(t, p, other, w, image)
				two.run(2)
				two.machine.Run(60)
				two.source.Run(60)
				two.alike()
				if !s.Step() {
					break
				}
			}
		}
	}
	if middle < 100 {
		t.Errorf("only %d images are in the middle of an instruction", middle)
	}
}

// P13.2: from each line, also one to which no control comes, a machine goes on like the source.
func TestAnyLine(t *testing.T) {
	t.Parallel()
	values := []api.Value{{Kind: api.Bool, N: 1}, integer(2), {}, str("s"), {Kind: api.Bool}}
	for n, text := range programs() {
		p := parsed(t, text)
		r := rand.New(rand.NewPCG(16, uint64(n)))
		fromAll(t, p, compiled(t, p), values[n%5:]...)
		fromAll(t, p, variedCode(t, r, p), values[(n+2)%5:]...)
	}
}

// P13.2, T5: with any amount of fuel the thread ends at the same line.
func TestFuel(t *testing.T) {
	t.Parallel()
	for n, text := range programs() {
		p := parsed(t, text)
		s, _ := source.New(p, worlds()[0])
		lines := min(s.Run(200), 60)
		for fuel := range lines + 2 {
			w := worlds()[0]
			w.Fuel = []int{fuel, (fuel + n) % 7}
			two := begunPair(t, p, w)
			two.machine.Run(300)
			two.source.Run(300)
			two.alike()
		}
	}
}

// P13.2, T5: with any limit the same epochs are made at once, and the same lines have the fault `bytes`.
func TestLimits(t *testing.T) {
	t.Parallel()
	m := met{}
	for _, text := range programs() {
		p := parsed(t, text)
		for limit := 0; limit < 200; limit += 8 {
			w := worlds()[0]
			w.Limit = []int{limit, 2 * limit}
			two := begunPair(t, p, w)
			two.machine.Run(300)
			two.source.Run(300)
			two.alike()
			m.events(two.source.Events())
		}
	}
	m.has(t, 20, "text bytes", "epoch", "final")
}

// P13.2: an object gets up to 64 fields; for one more there is no room to be taken.
func TestFullObjects(t *testing.T) {
	for _, fields := range []int{0, 61, 62, 63, 64} {
		p := parsed(t, "class P; func main; p = new P; try; p.a = p; catch e; print e; end; try; p.b = p; catch e; print e; end; try; p.a = e; catch e; print e; end; p.x = p; yield; v = p.a; print v; endfunc")
		for n := range fields {
			p.Classes[0].Fields = append(p.Classes[0].Fields, "f"+strconv.Itoa(n))
		}
		for limit := 0; limit < 1200; limit += 8 {
			w := rich(1)
			w.Limit[0] = limit
			two := begunPair(t, p, w)
			two.machine.Run(100)
			two.source.Run(100)
			two.alike()
		}
	}
}

// P13.2: ids up to the greatest ones of right refs. Beyond them images are not right any more (P7.9), but nothing panics (P1).
func TestLateIds(t *testing.T) {
	p := parsed(t, "class P x; func main; p = new P; n = 3; r = array n; p.x = r; i = 0; r[i] = p; w = weak r; f = bind g p r; v = apply f; print v; print f; final p h; p = nil; r = nil; yield; d = deref w; print d; endfunc; func h; s = 'gone'; print s; endfunc; func g p r; i = 0; v = r[i]; c = array i; r[i] = c; v = v.x; return v; endfunc")
	w := rich(1)
	w.Epoch = 3
	for next := 1000000000 - 8; next <= 1000000000-4; next++ {
		image := source.Begin(p, w)
		image.Next = next
		two := loadedPair(t, p, compiled(t, p), w, image)
		two.run(200)
		if got := two.machine.Image().Next; got != next+5 {
			t.Errorf("the next id is %d after %d", got, next)
		}
	}
	for _, next := range []int{999999997, 1000000000, 1000000001, 1<<63 - 3, 1<<63 - 1} {
		image := source.Begin(p, w)
		image.Next = next
		m := loaded(t, p, compiled(t, p), w, image)
		for m.Step() {
			m.Image()
		}
		m.Events()
		m.Hits()
	}
}

// P13.2: Run steps as long as it can, and returns how many steps there were.
func TestRun(t *testing.T) {
	p := parsed(t, programs()[1])
	s, _ := source.New(p, rich(1))
	steps := s.Run(1000)
	m := begun(t, p, rich(1))
	for _, n := range []int{0, -1, -1 << 63} {
		if got := m.Run(n); got != 0 || m.Image().Steps != 0 {
			t.Errorf("Run(%d) returns %d, and there were %d steps", n, got, m.Image().Steps)
		}
	}
	if got := m.Run(1); got != 1 || m.Image().Steps != 1 {
		t.Errorf("Run(1) returns %d, and there were %d steps", got, m.Image().Steps)
	}
	if got := m.Run(steps - 3); got != steps-3 {
		t.Errorf("Run(%d) returns %d", steps-3, got)
	}
	if got := m.Run(1 << 62); got != 2 || m.Step() {
		t.Errorf("Run returns %d before the end", got)
	}
	if got := m.Run(5); got != 0 {
		t.Errorf("Run returns %d at the end", got)
	}
	if !same(m.Image(), s.Image()) || !slices.Equal(m.Events(), s.Events()) {
		t.Errorf("image\n%s, want\n%s", source.Text(m.Image()), source.Text(s.Image()))
	}
	w := rich(1)
	w.Fuel[0] = 3
	m = begun(t, p, w)
	if got := m.Run(10); got != 4 || m.Image().Steps != 3 {
		t.Errorf("Run returns %d without fuel, after %d lines", got, m.Image().Steps)
	}
}

// P13.2: there are no more than 4000 events.
func TestEvents(t *testing.T) {
	p := parsed(t, "func main; x = true; while x; print x; end; endfunc")
	w := rich(1)
	w.Fuel[0] = 13000
	m := begun(t, p, w)
	s, _ := source.New(p, w)
	for _, steps := range []int{5, 11990, 20, 2000} {
		m.Run(steps)
		s.Run(steps)
		if got, want := m.Events(), s.Events(); !slices.Equal(got, want) {
			t.Fatalf("%d events, want %d", len(got), len(want))
		}
	}
	if n := len(m.Events()); n != api.MaxEvents {
		t.Errorf("%d events", n)
	}
}

// P13.2: the examples of chapter 7.
func TestExamples(t *testing.T) {
	for text, want := range map[string]string{
		"x = 1; print x":                              "print 0/0 0.1 1\nend 0/0 0.2 nil",
		"x = 1; y = 0; z = x / y":                     "fault 0/0 0.2 zero",
		"try; x = 1; return x; finally; print x; end": "print 0/0 0.4 1\nend 0/0 0.6 1",
		"x = true; while x; end":                      "fuel 0/0 0.1",
	} {
		m := begun(t, parsed(t, "func main; "+text+"; endfunc"), api.World{Fuel: []int{9}, Limit: []int{0}})
		m.Run(50)
		if got := allShown(m.Events()); got != want {
			t.Errorf("%s: events\n%s\nwant\n%s", text, got, want)
		}
	}
}
