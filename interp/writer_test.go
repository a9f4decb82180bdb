package interp

import (
	"math/rand/v2"
	"strings"
	"testing"

	"facsimile/api"
	"facsimile/lang"
)

// writer writes functions at random. Most variables have values of the kinds that lines need: ints i and j, a bool b, a string s, objects o and q, an array r, a closure k, a weak cell w; v and e have any values.
type writer struct {
	*rand.Rand
	theme int // the first one of those of simple that are there more often
	ends  int // how often a line may end the function: one of so many times
	most  int // lines of the function
	lines []string
}

const given = "i j b s o r k w" // the parameters of most functions

// simple are lines, and lists of them, that are in no block. A mark such as `I` stands for a variable with values that fit, V for any one, C for one with a cell.
const simple = "I = 0|I = 1|I = 4|B = true|B = false|S = 'ab'|v = nil|e = V|V = V|B = not B|I = neg I|v = input|v = clock|" +
	"I = I + I|I = I - I|I = I * I|I = I / I|I = I % I|B = I < I|B = S < S|B = V == V|B = B and B|B = B or B|S = S . S|" +
	"O = new c0|O = new c1|O = new c2|O = new c3|O = new c1; O.z = I|I = 3; R = array I|v = array I|I = len R|I = len S|W = weak C|v = deref W|" +
	"v = O.x|v = O.y|v = O.x|O.x = V|O.y = V|O.z = C|O.x = I|v = O.z|I = 1; v = R[I]|v = R[I]|I = 0; R[I] = C|R[I] = V|" +
	"v = call f0|v = call f1 " + given + "|v = call f3|v = send O m|v = send O m|v = send O n V|v = send O l i j b s r k w|v = send O q|" +
	"K = bind f0|K = bind f1 i j b s o|v = apply K r k w|K = bind f2 O V|K = bind f3; v = apply K|K = bind f2 V; v = apply K V|v = apply K|" +
	"e = new c0; final e f0; e = nil|v = array i; final v f3; v = nil|e = new c1; w = weak e; e = nil; yield; v = deref w|final C f3|O = O.x|" +
	"spawn 0 f1 " + given + "|spawn 1 f0; spawn 0 f0|spawn 1 f2 O V|spawn 0 f3|spawn 0 f0; spawn 0 f4 o; spawn 0 f0|spawn 1 f0; spawn 0 f0; spawn 0 f0|spawn 2 f3|spawn 7 f3|yield|yield|" +
	"if B; try; v = I / v; catch e; end; end|if B; try; throw V; finally; end; end|print V|print C|print v|throw V|throw S|return V|return O|print I"

// kinds has the variables for which marks stand.
func kinds(mark rune) string {
	switch mark {
	case 'I':
		return "ij"
	case 'B', 'S', 'R', 'K', 'W':
		return strings.ToLower(string(mark))
	case 'O':
		return "oooq"
	case 'C':
		return "oqrkw"
	case 'V':
		return "ijbsoqrkwve"
	}
	return ""
}

// add adds lines, with variables in place of their marks.
func (w *writer) add(texts ...string) {
	for _, text := range texts {
		var filled strings.Builder
		for _, c := range text {
			of := kinds(c)
			if of != "" && w.IntN(50) == 0 {
				of = kinds('V')
			}
			if of != "" {
				c = rune(of[w.IntN(len(of))])
			}
			filled.WriteRune(c)
		}
		w.lines = append(w.lines, strings.Split(filled.String(), "; ")...)
	}
}

// addRarely adds lines, but a return only sometimes.
func (w *writer) addRarely(text string) {
	if !strings.HasPrefix(text, "return") || w.IntN(w.ends) == 0 {
		w.add(text)
	}
}

func (w *writer) pick(texts ...string) string { return texts[w.IntN(len(texts))] }

// part adds some lines and blocks, as long as there is room for the lines that are owed.
func (w *writer) part(owed int) {
	for range 1 + w.IntN(4) {
		if len(w.lines)+owed+14 > w.most {
			return
		}
		all := strings.Split(simple, "|")
		n := w.IntN(len(all))
		if w.IntN(2) == 0 {
			n = (w.theme + w.IntN(8)) % len(all)
		}
		w.addRarely(all[n])
		switch w.IntN(9) {
		case 0, 1:
			w.choice(owed + 3)
		case 2, 3:
			w.loop(owed + 6)
		case 4, 5, 6:
			w.attempt(owed + 6)
		}
	}
}

func (w *writer) choice(owed int) {
	w.add("if B")
	w.part(owed)
	if w.IntN(2) == 0 {
		w.add("else")
		w.part(owed)
	}
	w.add("end")
}

// loop adds a loop of no, one, a few or many rounds. It may end with the end of another block.
func (w *writer) loop(owed int) {
	w.add(w.pick("b = true", "b = true", "yield"), "while b")
	w.part(owed)
	w.add(w.pick("b = false", "c = b; b = not c", "c = 2; i = i + c; b = i < j", "b = I < I", "if b; b = false; end", "if b; b = not b; else; yield; end"), "end")
}

// attempt adds a try; control often leaves its parts.
func (w *writer) attempt(owed int) {
	kind := w.IntN(4) // with a catch but for 1, with a finally but for 0
	for n, clause := range []string{"try", "catch e", "finally"} {
		if n > 0 && kind == 2-n {
			continue
		}
		w.add(clause)
		w.part(owed + 4)
		if w.IntN(3) > n {
			w.addRarely(w.pick("throw V", "return V", "throw I", "return O", "I = i / e"))
		}
	}
	w.add("end")
}

// function returns the text of a function in which most of the variables without arguments get values at first.
func (w *writer) function(head string, most int) string {
	w.most, w.lines, w.ends = most, nil, 1
	for _, l := range []string{"v = 2", "e = 'e'", "i = 1", "b = false", "o = new c0", "q = new c2"} {
		if w.IntN(5) > 0 && !strings.Contains(head, " "+l[:1]) {
			w.add(l)
		}
	}
	w.part(0)
	w.part(0)
	return "func " + head + "\n" + strings.Join(w.lines, "\n") + "\nendfunc\n"
}

// main returns the text of a function main, most of whose lines are in a loop in which exceptions are caught.
func (w *writer) main() string {
	w.lines = []string{"i = 1", "j = 3", "b = true", "s = 'x'", "o = new c0", "q = new c1", "r = array j", "k = bind f1 i j b s o", "w = weak o", "c = 0", "while b"}
	w.ends = 8
	for most := range 3 {
		w.most = 32 + 10*most
		w.add("try")
		w.part(4)
		w.add("catch e", "print e", "end")
	}
	w.add("h = 1", "c = c + h", "h = 5", "b = c < h", "end", "print o")
	return "func main\n" + strings.Join(w.lines, "\n") + "\nendfunc\n"
}

// program returns a random program.
func (w *writer) program(t *testing.T) api.Program {
	t.Helper()
	classes := "class c0 x y\nmethod m f4\nmethod n f2\nmethod l f1\nclass c1 x\nmethod n f2\nmethod m f4\nclass c2 y x\nmethod m f4\nclass c3\n"
	return parsed(t, classes+w.main()+w.function("f0", 32)+w.function("f1 "+given, 40)+w.function("f2 o v", 30)+"func f3\nendfunc\n"+w.function("f4 o", 30))
}

func (w *writer) one(numbers ...int) int { return numbers[w.IntN(len(numbers))] }

// world returns a random world.
func (w *writer) world() api.World {
	world := api.World{Epoch: w.one(0, 0, 1, 4, 9, 30, 100)}
	for range 1 + w.IntN(3) {
		world.Fuel = append(world.Fuel, w.one(0, 1, 30, 100, 500))
		world.Limit = append(world.Limit, w.one(0, 60, 200, 1000, api.MaxLimit))
	}
	// The first tenant runs main.
	world.Fuel[0], world.Limit[0] = w.one(20, 200, 1000, 1000), w.one(200, 300, 500, 1000, api.MaxLimit)
	for range w.IntN(6) {
		world.Inputs = append(world.Inputs, []api.Value{{Kind: api.Nil}, {Kind: api.Bool, N: 1}, integer(2), str("in")}[w.IntN(4)])
		world.Clocks = append(world.Clocks, w.IntN(9)-2)
	}
	for range w.IntN(30) {
		world.Choices = append(world.Choices, w.IntN(41)-20)
	}
	return world
}

// random returns a random program and a world for it, the same ones for each seed, and the random numbers after them.
func random(t *testing.T, seed uint64) (api.Program, api.World, *rand.Rand) {
	t.Helper()
	w := &writer{Rand: rand.New(rand.NewPCG(13, seed)), theme: int(seed)}
	return w.program(t), w.world(), w.Rand
}

// The writer only writes programs that are right.
func TestWriter(t *testing.T) {
	for seed := range uint64(200) {
		p, _, _ := random(t, seed)
		if lang.Print(p) == "" {
			t.Fatalf("seed %d: the text is too long", seed)
		}
		info(t, p)
	}
}
