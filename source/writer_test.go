package source

import (
	"math/rand/v2"
	"strings"
	"testing"

	"facsimile/api"
)

// writer writes programs at random. Most variables have values of the kinds that lines need, so that faults are not too frequent: ints i and j, a bool b, a string s, an object o, an array r, a closure k, a weak cell w, and p, v and e, which have any values, or none.
type writer struct {
	r     *rand.Rand
	theme int
	most  int // lines of the function
	lines []string
}

const (
	allVariables = "ijbsorkwpve"
	given        = "i j b s o r k w" // the parameters of most functions
)

// name returns one of the variables of these, and sometimes any other one.
func (w *writer) name(of string) string {
	if w.r.IntN(60) == 0 {
		of = allVariables
	}
	return string(of[w.r.IntN(len(of))])
}

// pick returns one of several texts.
func (w *writer) pick(texts ...string) string { return texts[w.r.IntN(len(texts))] }

// fill returns a text in which each mark, such as `I` or `O`, became the name of a variable with values that fit.
func (w *writer) fill(text string) string {
	marks := map[rune]string{'I': "ij", 'B': "b", 'S': "s", 'O': "o", 'R': "r", 'K': "k", 'W': "w", 'V': allVariables, 'C': "orkw", 'A': "pve"}
	var filled strings.Builder
	for _, c := range text {
		if of, marked := marks[c]; marked {
			filled.WriteString(w.name(of))
		} else {
			filled.WriteRune(c)
		}
	}
	return filled.String()
}

// themes returns lists of lines, some of which belong together; a program has more lines of one of the lists than of the others. Classes are named by digits after c, functions by digits after f.
func themes() [][]string {
	return [][]string{
		{"I = 0", "I = 1", "I = 3", "B = true", "B = false", "S = 'ab'", "V = nil", "A = V", "V = V", "B = not B", "I = neg I", "A = input", "p = clock"},
		{"I = I + I", "I = I - I", "I = I * I", "I = I / I", "I = I % I", "A = I / I", "B = I < I", "B = S < S", "B = V == V", "B = B and B", "B = B or B", "S = S . S"},
		{"O = new c0", "O = new c1", "A = new c2", "I = 9\nR = array I", "I = 2\nR = array I", "A = array I", "A = len A\nR = array p", "W = weak C", "A = deref W", "I = len R", "I = len S"},
		{"A = O.x", "A = O.y", "O.x = V", "O.x = C", "O.y = V", "O.z = V", "A = O.z", "I = 1\nA = R[I]", "A = R[I]", "R[I] = V", "I = 0\nR[I] = C"},
		{"A = call f0", "A = call f1 " + given, "A = call f1 " + given, "A = call f3", "A = send O m", "A = send O n V", "A = send O l i j b s r k w", "A = send O l i j b s r k w", "A = send O q"},
		{"K = bind f0", "K = bind f1 i j b s o", "A = apply K r k w", "K = bind f2 O V", "K = bind f3\nA = apply K", "K = bind f2 V\nA = apply K V", "A = apply K", "A = apply K V V"},
		{"p = new c0\nfinal p f0\np = nil", "p = 90\nA = array p", "p = array i\nfinal p f3\np = nil", "p = weak o\nfinal p f0", "final C f0", "final O f3", "p = new c1\nw = weak p\np = nil\nyield\nA = deref w", "O = O.x"},
		{"spawn 0 f1 " + given, "spawn 1 f0", "spawn 1 f2 O V", "spawn 0 f3", "spawn 0 f0\nspawn 0 f4 o\nspawn 0 f0", "spawn 1 f0\nspawn 0 f0\nspawn 0 f0", "spawn 2 f3", "spawn 7 f3", "yield", "yield"},
		{"print V", "print C", "print A", "throw V", "throw V", "return V", "return V", "print I", "yield", "throw S", "return I", "return O"},
	}
}

// simple adds lines that are in no block.
func (w *writer) simple() {
	all := themes()
	n := w.theme
	if w.r.IntN(2) == 0 {
		n = w.r.IntN(len(all))
	}
	w.add(w.pick(all[n]...))
}

// part adds some lines and blocks, as long as the function may have so many more.
func (w *writer) part(owed int) {
	for range 1 + w.r.IntN(4) {
		if len(w.lines)+owed+11 > w.most {
			return
		}
		w.simple()
		switch w.r.IntN(8) {
		case 0:
			w.choice(owed + 3)
		case 1:
			w.loop(owed + 6)
		case 2, 3, 4:
			w.attempt(owed + 6)
		}
	}
}

func (w *writer) add(texts ...string) {
	for _, text := range texts {
		w.lines = append(w.lines, strings.Split(w.fill(text), "\n")...)
	}
}

func (w *writer) choice(owed int) {
	w.add("if B")
	w.part(owed)
	if w.r.IntN(2) == 0 {
		w.add("else")
		w.part(owed)
	}
	w.add("end")
}

// loop adds a loop of one round, or of a few ones, or of many.
func (w *writer) loop(owed int) {
	w.add("while b")
	w.part(owed)
	w.add(w.pick("b = false", "b = false", "c = b\nb = not c", "c = 2\ni = i + c\nb = i < j", "b = I < I"), "end")
}

// attempt adds a try; control often leaves its parts.
func (w *writer) attempt(owed int) {
	kind := w.r.IntN(4) // with a catch but for 1, with a finally but for 0
	clauses := []string{"try", "catch A", "finally"}
	for n, clause := range clauses {
		if n > 0 && kind == 2-n {
			continue
		}
		w.add(clause)
		w.part(owed + 4)
		if w.r.IntN(3) > n {
			w.add(w.pick("throw V", "return V", "throw I", "return O", "I = i / e"))
		}
	}
	w.add("end")
}

// function returns the text of a function, in which some of the variables get values at first that are no parameters.
func (w *writer) function(head string, most int) string {
	w.most, w.lines = most, nil
	for _, l := range []string{"p = nil", "v = 2", "e = 'e'", "i = 1", "b = false", "o = new c0"} {
		if w.r.IntN(5) > 0 && (l[0] == 'p' || l[0] == 'v' || l[0] == 'e' || !strings.Contains(head, " "+l[:1])) {
			w.lines = append(w.lines, l)
		}
	}
	w.part(0)
	w.part(0)
	return written("func "+head, strings.Join(w.lines, "\n"), "endfunc")
}

// main returns the text of a function main, in which most variables get values at first. Most of the lines are in a loop, in which exceptions are caught.
func (w *writer) main() string {
	w.lines = []string{"i = 1", "j = 3", "b = true", "s = 'x'", "o = new c0", "r = array j", "k = bind f1 i j b s o", "w = weak o", "c = 0", "while b"}
	for most := range 3 {
		w.most = 26 + 10*most
		w.add("try")
		w.part(4)
		w.add("catch e", "print e", "end")
	}
	w.add("h = 1", "c = c + h", "h = 5", "b = c < h", "end")
	w.simple()
	return written("func main", strings.Join(w.lines, "\n"), "endfunc")
}

// program returns the text of a random program.
func (w *writer) program() string {
	return written("class c0 x y", "method m f4", "method n f2", "method l f1", "class c1 x", "method n f2", "class c2") +
		w.main() + w.function("f0", 20) + w.function("f1 "+given, 30) + w.function("f2 o v", 20) + written("func f3", "endfunc") + w.function("f4 o", 20)
}

// one returns one of several numbers.
func (w *writer) one(numbers ...int) int { return numbers[w.r.IntN(len(numbers))] }

// world returns a random world.
func (w *writer) world() api.World {
	world := api.World{Epoch: w.one(0, 0, 1, 4, 9, 30, 100)}
	for range 1 + w.r.IntN(3) {
		world.Fuel = append(world.Fuel, w.one(0, 1, 30, 100, 500))
		world.Limit = append(world.Limit, w.one(0, 60, 200, 1000, api.MaxLimit))
	}
	// The first tenant runs main.
	world.Fuel[0], world.Limit[0] = w.one(20, 200, 1000, 1000), w.one(150, 250, 400, 1000, api.MaxLimit)
	for range w.r.IntN(6) {
		world.Inputs = append(world.Inputs, []api.Value{null, yes, integer(2), str("in")}[w.r.IntN(4)])
		world.Clocks = append(world.Clocks, w.r.IntN(9)-2)
	}
	for range w.r.IntN(30) {
		world.Choices = append(world.Choices, w.r.IntN(41)-20)
	}
	return world
}

// random returns a random program and a world for it.
func random(t *testing.T, seed uint64) (string, api.World) {
	t.Helper()
	w := &writer{r: rand.New(rand.NewPCG(7, seed)), theme: int(seed) % len(themes())}
	return w.program(), w.world()
}
