package cache

import (
	"math"
	"slices"
	"strconv"
	"strings"
	"testing"

	"facsimile/api"
)

// site makes a site that learned these shapes with these slots, which stand as in a Text, or one that is full.
func site(t *testing.T, text string) *Site {
	t.Helper()
	s := New()
	if text == "full" {
		s = site(t, "1:5 2:6 3:7 4:8")
		refuses(t, s, 5, 9, api.ErrMany)
		return s
	}
	for _, part := range strings.Fields(text) {
		shape, slot := pair(part)
		learns(t, s, shape, slot)
	}
	reads(t, s, text)
	return s
}

// pair returns the numbers of a part of a Text.
func pair(part string) (shape, slot int) {
	a, b, _ := strings.Cut(part, ":")
	shape, _ = strconv.Atoi(a)
	slot, _ = strconv.Atoi(b)
	return shape, slot
}

// all are sites of each kind, by their Texts.
func all() []string {
	return []string{"", "3:1", "3:1 4:1", "9:0 8:3 7:2", "1:5 2:6 3:7 4:8", "full"}
}

// odd are ints that are no shapes and no slots.
func odd() []int {
	return []int{-1, -2, -5, -api.MaxInt, math.MinInt + 1, math.MinInt}
}

// reads checks Text, State and Shapes.
func reads(t *testing.T, s *Site, text string) {
	t.Helper()
	var shapes []int
	state := 3
	if text != "full" {
		for _, part := range strings.Fields(text) {
			shape, _ := pair(part)
			shapes = append(shapes, shape)
		}
		state = []int{0, 1, 2, 2, 2}[len(shapes)]
	}
	if s.Text() != text || s.State() != state || !slices.Equal(s.Shapes(), shapes) {
		t.Errorf("Text %q, State %d, Shapes %d, want %q, %d, %d", s.Text(), s.State(), s.Shapes(), text, state, shapes)
	}
}

// learns checks that Learn returns no error.
func learns(t *testing.T, s *Site, shape, slot int) {
	t.Helper()
	if e := s.Learn(shape, slot); e != api.OK {
		t.Errorf("Learn(%d, %d) = %d", shape, slot, e)
	}
}

// refuses checks that Learn returns this error.
func refuses(t *testing.T, s *Site, shape, slot int, want api.Errno) {
	t.Helper()
	if e := s.Learn(shape, slot); e != want {
		t.Errorf("Learn(%d, %d) = %d, want %d", shape, slot, e, want)
	}
}

// hits checks that Find returns this slot.
func hits(t *testing.T, s *Site, shape, slot int) {
	t.Helper()
	if got, ok := s.Find(shape); got != slot || !ok {
		t.Errorf("Find(%d) = %d, %t, want %d", shape, got, ok, slot)
	}
}

// misses checks that Find returns nothing.
func misses(t *testing.T, s *Site, shapes ...int) {
	t.Helper()
	for _, shape := range shapes {
		if got, ok := s.Find(shape); got != 0 || ok {
			t.Errorf("Find(%d) = %d, %t, want nothing", shape, got, ok)
		}
	}
}

// counts checks what Counts returns.
func counts(t *testing.T, s *Site, hits, misses int) {
	t.Helper()
	if h, m := s.Counts(); h != hits || m != misses {
		t.Errorf("Counts %d, %d, want %d, %d", h, m, hits, misses)
	}
}

// forgets checks what Forget returns.
func forgets(t *testing.T, s *Site, shape int, want bool) {
	t.Helper()
	if s.Forget(shape) != want {
		t.Errorf("Forget(%d) is not %t", shape, want)
	}
}

// The examples of the chapter.
func TestExamples(t *testing.T) {
	s := New()
	misses(t, s, 7)
	learns(t, s, 7, 2)
	hits(t, s, 7, 2)
	counts(t, s, 1, 1)

	s = New()
	for shape := 1; shape <= 4; shape++ {
		learns(t, s, shape, shape+4)
	}
	refuses(t, s, 5, 9, api.ErrMany)
	if s.State() != 3 || s.Text() != "full" {
		t.Errorf("State %d, Text %q", s.State(), s.Text())
	}

	s = New()
	learns(t, s, 3, 0)
	learns(t, s, 3, 1)
	learns(t, s, 4, 1)
	if s.Text() != "3:1 4:1" {
		t.Errorf("Text %q", s.Text())
	}
}

// P12.1: each shape that a site knows is a hit with its own slot, and all others are misses.
func TestFind(t *testing.T) {
	for _, text := range all() {
		s := site(t, text)
		counts(t, s, 0, 0)
		known := 0
		if text != "full" {
			for _, part := range strings.Fields(text) {
				shape, slot := pair(part)
				hits(t, s, shape, slot)
				known++
			}
		}
		misses(t, s, 0, 5, 6, 10, 1000, api.MaxInt, math.MaxInt-1, math.MaxInt)
		misses(t, s, odd()...)
		counts(t, s, known, 8+len(odd()))
		reads(t, s, text)
	}
}

// P12.1: the slot 0 and the shape 0 are like others; on a site without shapes they are not known.
func TestFindZero(t *testing.T) {
	s := New()
	misses(t, s, 0)
	learns(t, s, 1, 1)
	misses(t, s, 0)
	learns(t, s, 0, 0)
	hits(t, s, 0, 0)
	forgets(t, s, 1, true)
	hits(t, s, 0, 0)
	forgets(t, s, 0, true)
	misses(t, s, 0)
	counts(t, s, 2, 3)
}

// P12.1: hits and misses are counted before, while and after the site becomes full, and by Find alone.
func TestCounts(t *testing.T) {
	s := New()
	others := func() {
		t.Helper()
		h, m := s.Counts()
		refuses(t, s, -1, 0, api.ErrArg)
		s.Learn(1, 2)
		s.Learn(1, 5)
		s.Forget(77)
		s.Forget(-1)
		s.State()
		s.Shapes()
		s.Text()
		counts(t, s, h, m)
	}
	counts(t, s, 0, 0)
	misses(t, s, 1)
	counts(t, s, 0, 1)
	others()
	hits(t, s, 1, 5)
	hits(t, s, 1, 5)
	counts(t, s, 2, 1)
	others()
	for shape := 2; shape <= 4; shape++ {
		learns(t, s, shape, shape)
		hits(t, s, shape, shape)
		misses(t, s, shape+1)
	}
	counts(t, s, 5, 4)
	others()
	forgets(t, s, 1, true)
	misses(t, s, 1)
	learns(t, s, 1, 6)
	hits(t, s, 1, 6)
	counts(t, s, 6, 5)
	refuses(t, s, 5, 5, api.ErrMany)
	counts(t, s, 6, 5)
	others()
	misses(t, s, 1, 2, 3, 4, 5, -1)
	counts(t, s, 6, 11)
	others()
	forgets(t, s, 2, false)
	misses(t, s, 2)
	counts(t, s, 6, 12)
}

// P12.1: counts go on for as long as a site is used.
func TestManyCounts(t *testing.T) {
	s := site(t, "3:1")
	for range 100000 {
		s.Find(3)
		s.Find(4)
		s.Find(3)
	}
	counts(t, s, 200000, 100000)
	reads(t, s, "3:1")
}

// P12.2: a shape or a slot that is negative changes nothing, on no site; not even the fifth shape, or one that is known.
func TestLearnOfNegatives(t *testing.T) {
	for _, text := range all() {
		s := site(t, text)
		hit := 0
		for _, n := range odd() {
			for _, other := range []int{0, 1, 3, 4, 5, 9, 1000, math.MaxInt} {
				refuses(t, s, n, other, api.ErrArg)
				refuses(t, s, other, n, api.ErrArg)
			}
			for _, other := range odd() {
				refuses(t, s, n, other, api.ErrArg)
			}
			reads(t, s, text)
			misses(t, s, n)
			if s.State() == 3 {
				continue
			}
			for _, part := range strings.Fields(text) {
				shape, slot := pair(part)
				hits(t, s, shape, slot)
				hit++
			}
		}
		counts(t, s, hit, len(odd()))
	}
}

// P12.2: the greatest ints are shapes and slots like others.
func TestLearnOfTheGreatest(t *testing.T) {
	s := New()
	learns(t, s, math.MaxInt, math.MaxInt)
	learns(t, s, 0, math.MaxInt-1)
	learns(t, s, math.MaxInt-1, 0)
	learns(t, s, api.MaxInt, api.MaxItems)
	reads(t, s, "9223372036854775807:9223372036854775807 0:9223372036854775806 9223372036854775806:0 1000000000000000:64")
	hits(t, s, math.MaxInt, math.MaxInt)
	hits(t, s, 0, math.MaxInt-1)
	hits(t, s, math.MaxInt-1, 0)
	misses(t, s, math.MaxInt-2, math.MinInt, -1, 1)
	learns(t, s, math.MaxInt, 0)
	hits(t, s, math.MaxInt, 0)
	forgets(t, s, math.MaxInt-1, true)
	reads(t, s, "9223372036854775807:0 0:9223372036854775806 1000000000000000:64")
	learns(t, s, math.MaxInt-2, math.MaxInt)
	refuses(t, s, math.MaxInt-1, math.MaxInt, api.ErrMany)
	reads(t, s, "full")
}

// P12.2: a shape that is learned again gets another slot, or the same one, and keeps its place.
func TestLearnAgain(t *testing.T) {
	for _, row := range []struct {
		text        string
		shape, slot int
		want        string
	}{
		{"3:1", 3, 0, "3:0"},
		{"3:1", 3, 1, "3:1"},
		{"3:1 4:2", 3, 7, "3:7 4:2"},
		{"3:1 4:2", 4, 7, "3:1 4:7"},
		{"9:0 8:3 7:2", 9, 5, "9:5 8:3 7:2"},
		{"9:0 8:3 7:2", 8, 5, "9:0 8:5 7:2"},
		{"9:0 8:3 7:2", 7, 5, "9:0 8:3 7:5"},
		{"9:0 8:3 7:2", 8, 0, "9:0 8:0 7:2"},
		{"1:5 2:6 3:7 4:8", 1, 9, "1:9 2:6 3:7 4:8"},
		{"1:5 2:6 3:7 4:8", 2, 9, "1:5 2:9 3:7 4:8"},
		{"1:5 2:6 3:7 4:8", 3, 9, "1:5 2:6 3:9 4:8"},
		{"1:5 2:6 3:7 4:8", 4, 9, "1:5 2:6 3:7 4:9"},
		{"1:5 2:6 3:7 4:8", 4, 8, "1:5 2:6 3:7 4:8"},
	} {
		s := site(t, row.text)
		for range 6 {
			learns(t, s, row.shape, row.slot)
			reads(t, s, row.want)
		}
		hits(t, s, row.shape, row.slot)
		for _, part := range strings.Fields(row.want) {
			shape, slot := pair(part)
			hits(t, s, shape, slot)
		}
	}
}

// P12.2: shapes come in the order in which they are learned, whatever their numbers and slots are.
func TestLearnKeepsTheOrder(t *testing.T) {
	for _, order := range [][]int{{1, 2, 3, 4}, {4, 3, 2, 1}, {2, 4, 1, 3}, {3, 1, 4, 2}} {
		s := New()
		text := ""
		for n, shape := range order {
			learns(t, s, shape, 10-n)
			text = strings.TrimSpace(text + " " + strconv.Itoa(shape) + ":" + strconv.Itoa(10-n))
			reads(t, s, text)
		}
		for n, shape := range order {
			hits(t, s, shape, 10-n)
		}
	}
	reads(t, site(t, "5:3 6:3 7:3 8:3"), "5:3 6:3 7:3 8:3")
}

// P12.2: a fourth shape is learned, each of four may be learned again, and a fifth one makes the site full.
func TestLearnOfTheFifth(t *testing.T) {
	for _, fifth := range []int{0, 5, 1000, math.MaxInt} {
		s := site(t, "1:5 2:6 3:7")
		learns(t, s, 4, 8)
		reads(t, s, "1:5 2:6 3:7 4:8")
		for shape := 1; shape <= 4; shape++ {
			learns(t, s, shape, shape)
		}
		reads(t, s, "1:1 2:2 3:3 4:4")
		refuses(t, s, fifth, 1, api.ErrMany)
		reads(t, s, "full")
		misses(t, s, fifth, 1, 2, 3, 4)
	}
}

// P12.2: what is full stays full, and knows nothing, whatever is called.
func TestFullForever(t *testing.T) {
	s := site(t, "full")
	missed := 0
	for range 3 {
		for shape := range 8 {
			misses(t, s, shape)
			refuses(t, s, shape, 0, api.ErrMany)
			refuses(t, s, shape, shape+4, api.ErrMany)
			refuses(t, s, shape, -1, api.ErrArg)
			refuses(t, s, -shape-1, 0, api.ErrArg)
			forgets(t, s, shape, false)
			forgets(t, s, -shape-1, false)
			misses(t, s, shape)
			missed += 2
			reads(t, s, "full")
			counts(t, s, 0, missed)
		}
	}
	refuses(t, s, math.MaxInt, math.MaxInt, api.ErrMany)
	forgets(t, s, math.MaxInt, false)
	reads(t, s, "full")
}

// P12.3: each shape is forgotten alone, and the order of the others stays.
func TestForget(t *testing.T) {
	for _, row := range []struct {
		text  string
		shape int
		want  string
	}{
		{"3:1", 3, ""},
		{"3:1 4:1", 3, "4:1"},
		{"3:1 4:1", 4, "3:1"},
		{"9:0 8:3 7:2", 9, "8:3 7:2"},
		{"9:0 8:3 7:2", 8, "9:0 7:2"},
		{"9:0 8:3 7:2", 7, "9:0 8:3"},
		{"1:5 2:6 3:7 4:8", 1, "2:6 3:7 4:8"},
		{"1:5 2:6 3:7 4:8", 2, "1:5 3:7 4:8"},
		{"1:5 2:6 3:7 4:8", 3, "1:5 2:6 4:8"},
		{"1:5 2:6 3:7 4:8", 4, "1:5 2:6 3:7"},
	} {
		s := site(t, row.text)
		forgets(t, s, row.shape, true)
		reads(t, s, row.want)
		misses(t, s, row.shape)
		forgets(t, s, row.shape, false)
		reads(t, s, row.want)
		for _, part := range strings.Fields(row.want) {
			shape, slot := pair(part)
			hits(t, s, shape, slot)
		}
		learns(t, s, row.shape, 33)
		reads(t, s, strings.TrimSpace(row.want+" "+strconv.Itoa(row.shape)+":33"))
		hits(t, s, row.shape, 33)
	}
}

// P12.3: a shape that is not there is not forgotten, on no site; a slot is no shape.
func TestForgetOfOthers(t *testing.T) {
	for _, text := range all() {
		s := site(t, text)
		for _, shape := range append(odd(), 0, 5, 6, 10, 1000, api.MaxInt, math.MaxInt-1, math.MaxInt) {
			forgets(t, s, shape, false)
			forgets(t, s, shape, false)
			reads(t, s, text)
		}
		counts(t, s, 0, 0)
	}
}

// P12.3: all shapes are forgotten one by one, in all orders, and others learned instead.
func TestForgetAll(t *testing.T) {
	for _, order := range [][]int{{1, 2, 3, 4}, {4, 3, 2, 1}, {2, 4, 1, 3}, {3, 1, 4, 2}, {2, 1, 4, 3}, {1, 4, 3, 2}} {
		s := site(t, "1:5 2:6 3:7 4:8")
		for n, shape := range order {
			forgets(t, s, shape, true)
			if len(s.Shapes()) != 3-n || slices.Contains(s.Shapes(), shape) {
				t.Errorf("after %d the shapes are %d", shape, s.Shapes())
			}
		}
		reads(t, s, "")
		for shape := 5; shape <= 8; shape++ {
			learns(t, s, shape, shape)
		}
		reads(t, s, "5:5 6:6 7:7 8:8")
	}
}

// P12.2, P12.3: five different shapes do not make a site full if one is forgotten before the fifth comes.
func TestFiveWithOneForgotten(t *testing.T) {
	for shape, want := range map[int]string{1: "2:6 3:7 4:8 5:9", 2: "1:5 3:7 4:8 5:9", 3: "1:5 2:6 4:8 5:9", 4: "1:5 2:6 3:7 5:9"} {
		s := site(t, "1:5 2:6 3:7 4:8")
		forgets(t, s, shape, true)
		learns(t, s, 5, 9)
		reads(t, s, want)
		refuses(t, s, shape, 0, api.ErrMany)
		reads(t, s, "full")
	}
	s := New()
	for shape := range 1000 {
		learns(t, s, shape, shape+1)
		hits(t, s, shape, shape+1)
		if shape >= 3 {
			forgets(t, s, shape-3, true)
		}
	}
	reads(t, s, "997:998 998:999 999:1000")
}

// P12.4: State with none, one, two, three and four shapes, and full, on the way up and down.
func TestState(t *testing.T) {
	s := New()
	state := func(want int) {
		t.Helper()
		if s.State() != want {
			t.Errorf("State %d, want %d", s.State(), want)
		}
	}
	state(0)
	for shape, want := range []int{1, 2, 2, 2} {
		learns(t, s, shape, 0)
		state(want)
	}
	for shape, want := range []int{2, 2, 1, 0} {
		forgets(t, s, shape, true)
		state(want)
	}
	for shape, want := range []int{1, 2, 2, 2} {
		learns(t, s, shape, 0)
		state(want)
	}
	refuses(t, s, 4, 0, api.ErrMany)
	state(3)
	forgets(t, s, 0, false)
	state(3)
}

// P12.4: Text is decimal, without signs and zeros before it, and with one blank between shapes.
func TestText(t *testing.T) {
	s := New()
	for _, step := range []struct {
		shape, slot int
		text        string
	}{{0, 0, "0:0"}, {10, 100, "0:0 10:100"}, {0, 12, "0:12 10:100"}, {199, 63, "0:12 10:100 199:63"}, {8000, 1, "0:12 10:100 199:63 8000:1"}} {
		learns(t, s, step.shape, step.slot)
		if s.Text() != step.text {
			t.Errorf("Text %q, want %q", s.Text(), step.text)
		}
	}
}
