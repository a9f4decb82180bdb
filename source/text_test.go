package source

import (
	"math"
	"math/rand/v2"
	"slices"
	"strconv"
	"strings"
	"testing"

	"facsimile/api"
)

// texts returns images with their texts.
func texts() map[string]api.Image {
	standing := written(
		"image 4 100 10 5 2 1 3", "fuel 10 0", "used 48 88",
		"cell 3 1 0 0 0 2 1:x 1:y 3:nil 2:@3", "cell 5 2 0 0 1 0 2:@6 1:2 3:nil", "cell 6 4 0 0 1 0 2:@8", "cell 8 3 0 3 0 0", "cell 9 4 0 0 1 0 3:nil",
		"final 2 3 1", "final 3 4 0",
		"thread 1 0", "frame 0 2 2:@3 5:unset", "frame 1 0 2:@3 5:unset 5:unset 5:unset", "frame 2 0 2:@3",
		"thread 4 1", "frame 0 7 2:@5 1:7", "pend 1 1 2 3:'z'", "pend 2 0 0 2:@9",
	)
	numbers := api.Image{Now: -1, Steps: math.MaxInt, Next: math.MinInt, Born: -10, In: 20, Clock: -300, Choice: 4000, Fuel: []int{1, -2, 33, 0, 5, 6}, Used: []int{math.MaxInt}}
	values := []api.Value{null, yes, no, integer(-5), str("it's"), str("a b"), str(""), ref(12), {Kind: api.Fun, N: 3}, unset}
	return map[string]api.Image{
		standing:                                 standingImage(),
		"image 0 0 0 0 0 0 0\nfuel\nused\n":      {},
		"image -1 0 0 1 0 0 0\nfuel 7\nused 0\n": {Now: -1, Born: 1, Fuel: []int{7}, Used: []int{0}},
		"image -1 9223372036854775807 -9223372036854775808 -10 20 -300 4000\nfuel 1 -2 33 0 5 6\nused 9223372036854775807\n": numbers,
		"image 0 0 0 0 0 0 0\nfuel\nused\nthread 0 0\nthread -1 -2\nframe -3 4\nframe 0 0\nthread 0 0\nframe 0 0\npend 0 0 0 5:unset\npend -7 8 -9 3:nil\n": {
			Threads: []api.Thread{{}, {Id: -1, Tenant: -2, Frames: []api.Frame{{Fun: -3, Line: 4}, {}}}, {Frames: []api.Frame{{Pend: []api.Pending{{}, {Kind: -7, Value: null, Place: place(8, -9)}}}}}},
		},
		"image 0 0 0 0 0 0 0\nfuel\nused\nthread 0 0\nframe 0 0 3:nil 4:true 5:false 2:-5 7:'it''s' 5:'a b' 2:'' 3:@12 2:&3 5:unset\n": {
			Threads: []api.Thread{{Frames: []api.Frame{{Vars: values}}}},
		},
		"image 0 0 0 0 0 0 0\nfuel\nused\ncell -1 7 -8 9 -10 3 0: 4:a\n b 3:2:x 3:nil\ncell 0 0 0 0 0 0\ncell 1 0 0 0 0 1 1:\xff\n": {
			Cells: []api.Entry{{Id: -1, Cell: api.Cell{Kind: 7, Class: -8, Fun: 9, Tenant: -10, Names: []string{"", "a\n b", "2:x"}, Items: []api.Value{null}}}, {}, {Id: 1, Cell: api.Cell{Names: []string{"\xff"}}}},
		},
		"image 0 0 0 0 0 0 0\nfuel\nused\ncell 0 0 0 0 0 0 2:''\ncell 0 0 0 0 0 1 2:''\nfinal 0 0 0\nfinal -1 -2 -3\n": {
			Cells:  []api.Entry{{Cell: api.Cell{Items: []api.Value{str("")}}}, {Cell: api.Cell{Names: []string{"''"}}}},
			Finals: []api.Final{{}, {Cell: -1, Fun: -2, Tenant: -3}},
		},
	}
}

// P7.8: texts of images with each part, and back.
func TestTexts(t *testing.T) {
	for text, m := range texts() {
		if got := Text(m); got != text {
			t.Errorf("Text of %+v:\n%s, not\n%s", m, got, text)
		}
		if got, ok := Read(text); !ok || !same(got, m) {
			t.Errorf("Read of %q: %+v and %t", text, got, ok)
		}
	}
}

// P7.8: there is no text of an image with a value that is not right, wherever it is.
func TestTextsOfWrongValues(t *testing.T) {
	for _, wrong := range []api.Value{{Kind: -1}, {Kind: api.Fun + 1}, {N: 1}, {S: "x"}, {Kind: api.Bool, N: 2}, integer(api.MaxInt + 1), integer(-api.MaxInt - 1), str("\n"), str("\x7f"), str(strings.Repeat("x", 201)), ref(-1), ref(1000000001), {Kind: api.Fun, N: 24}, {Kind: api.Nil, S: "x"}} {
		for what, change := range map[string]func(m *api.Image){
			"the first item":     func(m *api.Image) { m.Cells[0].Cell.Items[0] = wrong },
			"the last item":      func(m *api.Image) { m.Cells[4].Cell.Items[0] = wrong },
			"the first variable": func(m *api.Image) { m.Threads[0].Frames[0].Vars[0] = wrong },
			"the last variable":  func(m *api.Image) { m.Threads[1].Frames[0].Vars[1] = wrong },
			"what is pending":    func(m *api.Image) { m.Threads[1].Frames[0].Pend[0].Value = wrong },
			"what is pending at last": func(m *api.Image) {
				m.Threads[1].Frames[0].Pend[1].Value = wrong
			},
		} {
			m := standingImage()
			change(&m)
			if got := Text(m); got != "" {
				t.Errorf("%s is %+v: %q", what, wrong, got)
			}
		}
	}
}

// isText checks what Read says of a text that may be none.
func isText(t *testing.T, s string) bool {
	t.Helper()
	m, ok := Read(s)
	if ok && Text(m) != s {
		t.Errorf("Read of %q: an image with the text %q", s, Text(m))
	}
	if !ok && !same(m, api.Image{}) {
		t.Errorf("Read of %q: %+v and false", s, m)
	}
	return ok
}

// P7.8: texts in which a byte is another one, or missing, or there twice, or that end sooner.
func TestChangedTexts(t *testing.T) {
	r := rand.New(rand.NewPCG(7, 8))
	read, refused := 0, 0
	for text := range texts() {
		for n := range len(text) {
			variants := []string{text[:n], text[n:], text[:n] + text[n+1:], text[:n] + text[n:n+1] + text[n:]}
			for _, b := range []byte(" \n:'@&-+019xantfupci") {
				variants = append(variants, text[:n]+string(rune(b))+text[n+1:], text[:n]+string(rune(b))+text[n:])
			}
			variants = append(variants, text[:n]+string([]byte{byte(r.IntN(256))})+text[n+1:])
			for _, s := range variants {
				if s == text {
					continue
				}
				if isText(t, s) {
					read++
				} else {
					refused++
				}
			}
		}
	}
	if read < 1000 || refused < 10000 {
		t.Errorf("%d texts are read, and %d refused", read, refused)
	}
}

// P7.8: texts that are nearly those of images.
func TestWrongTexts(t *testing.T) {
	const head = "image 0 0 0 0 0 0 0\nfuel\nused\n"
	if !isText(t, head) {
		t.Fatal("the shortest text")
	}
	for _, s := range []string{
		"", "\n", " ", "image", "image\n", "image 0 0 0 0 0 0 0\n", "fuel\nused\n", "image 0 0 0 0 0 0 0\nused\nfuel\n", "fuel\nimage 0 0 0 0 0 0 0\nused\n", "image 0 0 0 0 0 0\nfuel\nused\n", "image 0 0 0 0 0 0 0 0\nfuel\nused\n",
		head + "\n", "\n" + head, head + head, head + "fuel\n", head + "used\n", head + "image 0 0 0 0 0 0 0\n", head + " ", head + "x\n", head + "event 1 0 0 0 0 0:\n",
		"image 00 0 0 0 0 0 0\nfuel\nused\n", "image -0 0 0 0 0 0 0\nfuel\nused\n", "image +0 0 0 0 0 0 0\nfuel\nused\n", "image 0  0 0 0 0 0 0\nfuel\nused\n", "image 0 0 0 0 0 0 0 \nfuel\nused\n", "image 0x0 0 0 0 0 0 0\nfuel\nused\n", "image - 0 0 0 0 0 0\nfuel\nused\n",
		"image 9223372036854775808 0 0 0 0 0 0\nfuel\nused\n", "image -9223372036854775809 0 0 0 0 0 0\nfuel\nused\n", "image 0 0 0 0 0 0 0\r\nfuel\nused\n", "image 0 0 0 0 0 0 0\nfuel \nused\n", "image 0 0 0 0 0 0 0\nfuel 1 \nused\n", "image 0 0 0 0 0 0 0\nfuel x\nused\n",
		head + "frame 0 0\n", head + "pend 0 0 0 5:unset\n", head + "thread 0 0\npend 0 0 0 5:unset\n", head + "thread 0\n", head + "thread 0 0 0\n", head + "thread 0 0\nframe 0\n", head + "thread 0 0\nframe 0 0 \n", head + "thread 0 0\nframe 0 0 0\n",
		head + "thread 0 0\nframe 0 0 4:nil\n", head + "thread 0 0\nframe 0 0 3:nilx\n", head + "thread 0 0\nframe 0 0 2:nil\n", head + "thread 0 0\nframe 0 0 3:nil\n\n", head + "thread 0 0\nframe 0 0 03:nil\n", head + "thread 0 0\nframe 0 0 +3:nil\n", head + "thread 0 0\nframe 0 0 -3:nil\n",
		head + "thread 0 0\nframe 0 0 3nil\n", head + "thread 0 0\nframe 0 0 3 nil\n", head + "thread 0 0\nframe 0 0 3:not\n", head + "thread 0 0\nframe 0 0 2:01\n", head + "thread 0 0\nframe 0 0 0:\n", head + "thread 0 0\nframe 0 0 999999999999999999999:nil\n", head + "thread 0 0\nframe 0 0 9223372036854775807:nil\n",
		head + "thread 0 0\nframe 0 0\npend 0 0 0\n", head + "thread 0 0\nframe 0 0\npend 0 0 0 3:nil 3:nil\n", head + "thread 0 0\nframe 0 0\npend 0 0 3:nil\n",
		head + "cell 0 0 0 0 0\n", head + "cell 0 0 0 0 0 1\n", head + "cell 0 0 0 0 0 2 1:x\n", head + "cell 0 0 0 0 0 -1\n", head + "cell 0 0 0 0 0 1 3:nil 1:x\n", head + "cell 0 0 0 0 0 9223372036854775807\n", head + "cell 0 0 0 0 0 0 1:x\n", head + "cell 0 0 0 0 0 0 ",
		head + "final 0 0\n", head + "final 0 0 0 0\n", head + "final 0 0 0\ncell 0 0 0 0 0 0\n", head + "thread 0 0\nfinal 0 0 0\n", head + "thread 0 0\ncell 0 0 0 0 0 0\n", head + "thread 0 0", head[:len(head)-1],
		"image 0 0 0 0 0 0 0\nfuel\ncell 0 0 0 0 0 0\nused\n", "image 0 0 0 0 0 0 0\nfuel 1\nfuel\nused\n", "image 1 0 0 0 0 0 0\nimage 0 0 0 0 0 0 0\nfuel\nused\n", "IMAGE 0 0 0 0 0 0 0\nfuel\nused\n", "image\t0 0 0 0 0 0 0\nfuel\nused\n",
	} {
		if isText(t, s) {
			t.Errorf("Read of %q is true", s)
		}
	}
}

// P7.8: long texts, and what are nearly texts, of images that are much larger than those of machines.
func TestLongTexts(t *testing.T) {
	m := api.Image{Fuel: slices.Repeat([]int{1}, 100000)}
	for n := range 20000 {
		m.Cells = append(m.Cells, api.Entry{Id: n, Cell: api.Cell{Names: []string{strings.Repeat("x", n%100)}, Items: slices.Repeat([]api.Value{integer(n)}, n%40)}})
		m.Threads = append(m.Threads, api.Thread{Id: n, Frames: []api.Frame{{Vars: []api.Value{ref(n)}}}})
	}
	m.Threads[7].Frames[0].Pend = make([]api.Pending, 100000)
	text := Text(m)
	if got, ok := Read(text); !ok || !same(got, m) {
		t.Error("a long text")
	}
	for _, s := range []string{text[:len(text)-1], text + "x", strings.Repeat("x", 3000000), strings.Repeat("image ", 1000000), strings.Repeat("fuel\n", 1000000), "fuel" + strings.Repeat(" 1", 1000000), strings.Repeat("9", 3000000), "image " + strings.Repeat("9", 3000000)} {
		if isText(t, s) {
			t.Errorf("a long text that begins with %q", s[:10])
		}
	}
}

// P7.8: texts of events.
func TestEventTexts(t *testing.T) {
	for want, e := range map[string]api.Event{
		"event 0 0 0 0 0 0:":          {},
		"event 1 2 3 4 5 5:hello":     {Kind: api.EvPrint, Thread: 2, Tenant: 3, Place: place(4, 5), Text: "hello"},
		"event 6 -1 0 0 0 4:32 0":     {Kind: api.EvEpoch, Thread: -1, Text: "32 0"},
		"event -9 -8 -7 -6 -5 3:a\nb": {Kind: -9, Thread: -8, Tenant: -7, Place: place(-6, -5), Text: "a\nb"},
		"event 9223372036854775807 -9223372036854775808 0 0 0 2:\xff\x00": {Kind: math.MaxInt, Thread: math.MinInt, Text: "\xff\x00"},
		"event 0 0 0 0 0 12:" + strings.Repeat("x", 12):                   {Text: strings.Repeat("x", 12)},
	} {
		if got := EventText(e); got != want {
			t.Errorf("EventText(%+v) = %q, not %q", e, got, want)
		}
	}
	long := strings.Repeat("y", 1000000)
	if got := EventText(api.Event{Text: long}); got != "event 0 0 0 0 0 "+strconv.Itoa(len(long))+":"+long {
		t.Error("a long event")
	}
}

// P7.8: whatever Read takes for a text is the text of what it returns.
func FuzzRead(f *testing.F) {
	for text := range texts() {
		f.Add(text)
	}
	f.Fuzz(func(t *testing.T, s string) { isText(t, s) })
}
