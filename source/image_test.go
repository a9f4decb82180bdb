package source

import (
	"reflect"
	"slices"
	"strconv"
	"testing"

	"facsimile/api"
)

// ids returns which cells an image has.
func ids(m api.Image) []int {
	var l []int
	for _, e := range m.Cells {
		l = append(l, e.Id)
	}
	return l
}

// P7.7: the image has the cells alone that can be asked for, also over weak cells; the others take their bytes until the next epoch.
func TestVisibleCells(t *testing.T) {
	for _, c := range []struct {
		what  string
		text  string
		steps int
		want  []int
		used  int
	}{
		{"live variables", with("a = new d", "b = new d", "print b"), 2, []int{1}, 32},
		{"over a weak cell", with("a = new d", "b = weak a", "print b"), 2, []int{0, 1}, 40},
		{"over a weak cell of a weak cell", with("a = new d", "b = weak a", "b = weak b", "b = weak b", "print b"), 4, []int{0, 1, 2, 3}, 88},
		{"over the items of the target of a weak cell", with("a = new c", "b = new c", "a.x = b", "b = new c", "b = weak a", "print b"), 5, []int{0, 1, 3}, 120},
		{"without the weak cell", with("a = new d", "b = weak a", "yield"), 2, nil, 40},
		{"pending exceptions", with("a = new d", "b = weak a", "try", "throw b", "finally", "yield", "end"), 4, []int{0, 1}, 40},
		{"pending returns", with("a = new d", "try", "return a", "finally", "yield", "end"), 3, []int{0}, 16},
		{"lower frames", with("a = new d", "b = new d", "x = call f0", "print a"), 3, []int{0}, 32},
		{"other threads", with("a = new d", "spawn 0 f1 a", "yield"), 2, []int{0}, 16},
		{"finalisers alone", with("a = new d", "final a f0", "yield"), 2, nil, 16},
		{"no thread", with("a = new d"), 1, nil, 16},
	} {
		m := begun(t, c.text, rich(1))
		m.Run(c.steps)
		for range 2 {
			if got := m.Image(); !slices.Equal(ids(got), c.want) || !slices.Equal(got.Used, []int{c.used}) {
				t.Errorf("%s: the cells %v, not %v; used %v", c.what, ids(got), c.want, got.Used)
			}
		}
	}
}

// P7.7: at most 4000 events, the first ones; the machine goes on.
func TestManyEvents(t *testing.T) {
	text := mainOf("n = 0", "one = 1", "b = true", "while b", "print n", "n = n + one", "end")
	for _, prints := range []int{3998, 3999, 4000, 4001, 4500} {
		steps := 3 + 4*prints
		m := begun(t, text, fuelled(steps))
		if n := m.Run(steps); n != steps {
			t.Fatalf("%d steps", n)
		}
		events := m.Events()
		if len(events) != min(prints, 4000) {
			t.Errorf("%d events of %d", len(events), prints)
		}
		for n, e := range events {
			if want := (api.Event{Kind: api.EvPrint, Place: place(0, 4), Text: strconv.Itoa(n)}); e != want {
				t.Fatalf("event number %d of %d: %+v", n, prints, e)
			}
		}
		if !m.Step() || m.Step() {
			t.Error("it does not end")
		}
		end := api.Event{Kind: api.EvFuel, Place: place(0, 3)}
		if events := m.Events(); len(events) != min(prints+1, 4000) || slices.Contains(events, end) != (prints < 4000) {
			t.Errorf("%d events of %d and the last one", len(events), prints)
		}
		if image := m.Image(); image.Steps != steps || image.Now != -1 {
			t.Errorf("at the end: %+v", image)
		}
	}
	// A loaded machine begins to count anew.
	m := begun(t, text, fuelled(20000))
	m.Run(17000)
	l := loaded(t, text, fuelled(20000), m.Image())
	l.Run(100)
	if events := l.Events(); len(m.Events()) != 4000 || len(events) != 25 || events[0].Text != "4249" {
		t.Errorf("loaded: %d events, the first one %+v", len(events), events[0])
	}
}

// P7.7: Copy returns equal images, of all kinds; it keeps nil lists.
func TestCopy(t *testing.T) {
	images := []api.Image{{}, standingImage(), Begin(parsed(t, greeting), rich(2)), {Threads: make([]api.Thread, 2), Cells: make([]api.Entry, 2), Finals: make([]api.Final, 3), Fuel: []int{-1}, Used: []int{}, Now: 7}}
	for n, m := range images {
		if got := Copy(m); !same(got, m) {
			t.Errorf("image number %d: %+v", n, got)
		}
	}
	if got := Copy(standingImage()); !reflect.DeepEqual(got, standingImage()) {
		t.Errorf("%+v", got)
	}
}
