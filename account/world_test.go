package account

import (
	"math"
	"reflect"
	"slices"
	"strings"
	"testing"

	"facsimile/api"
)

// The limits of the chapter, written in another way than in the program.
const (
	million  = 1000 * 1000
	billion  = 1000 * million
	trillion = 1000 * billion
)

func integer(n int) api.Value { return api.Value{Kind: api.Int, N: n} }

func str(s string) api.Value { return api.Value{Kind: api.Str, S: s} }

// world returns a right world of two tenants.
func world() api.World {
	return api.World{
		Inputs:  []api.Value{{Kind: api.Nil}, {Kind: api.Bool, N: 1}, integer(7), str("a")},
		Clocks:  []int{5, -5, 0},
		Choices: []int{2, 0, -1},
		Fuel:    []int{100, 0},
		Limit:   []int{0, 500},
		Epoch:   10,
	}
}

// spoilt is a right world in which one thing is different.
type spoilt struct {
	what  string
	spoil func(*api.World)
}

// judged checks what Right says of worlds.
func judged(t *testing.T, want bool, worlds []spoilt) {
	t.Helper()
	for _, s := range worlds {
		w := world()
		s.spoil(&w)
		if Right(w) != want {
			t.Errorf("%s: Right = %v", s.what, !want)
		}
	}
}

// tenants makes a world have so many tenants.
func tenants(w *api.World, n int) {
	w.Fuel, w.Limit = slices.Repeat([]int{1}, n), slices.Repeat([]int{1}, n)
}

// P6.5: each limit is just kept.
func TestRightWorlds(t *testing.T) {
	judged(t, true, []spoilt{
		{"as it is", func(w *api.World) {}},
		{"no inputs", func(w *api.World) { w.Inputs = nil }},
		{"no clocks", func(w *api.World) { w.Clocks = nil }},
		{"no choices", func(w *api.World) { w.Choices = nil }},
		{"empty lists", func(w *api.World) { w.Inputs, w.Clocks, w.Choices = []api.Value{}, []int{}, []int{} }},
		{"1000 inputs", func(w *api.World) { w.Inputs = slices.Repeat([]api.Value{integer(3)}, 1000) }},
		{"1000 clocks", func(w *api.World) { w.Clocks = slices.Repeat([]int{1000 * trillion}, 1000) }},
		{"1000 choices", func(w *api.World) { w.Choices = slices.Repeat([]int{billion}, 1000) }},
		{"all of them", func(w *api.World) {
			w.Inputs, w.Clocks, w.Choices = slices.Repeat([]api.Value{str("s")}, 1000), make([]int, 1000), make([]int, 1000)
		}},
		{"the greatest clock", func(w *api.World) { w.Clocks[1] = 1000 * trillion }},
		{"the least clock", func(w *api.World) { w.Clocks[1] = -1000 * trillion }},
		{"the greatest choice", func(w *api.World) { w.Choices[1] = billion }},
		{"the least choice", func(w *api.World) { w.Choices[1] = -billion }},
		{"one tenant", func(w *api.World) { tenants(w, 1) }},
		{"3 tenants", func(w *api.World) { tenants(w, 3) }},
		{"4 tenants", func(w *api.World) { tenants(w, 4) }},
		{"the greatest fuel", func(w *api.World) { w.Fuel = []int{1000 * trillion, 1000 * trillion} }},
		{"no fuel", func(w *api.World) { w.Fuel = []int{0, 0} }},
		{"the greatest limit", func(w *api.World) { w.Limit = []int{30000, 30000} }},
		{"the limit 0", func(w *api.World) { w.Limit = []int{0, 0} }},
		{"the epoch 0", func(w *api.World) { w.Epoch = 0 }},
		{"the epoch 1", func(w *api.World) { w.Epoch = 1 }},
		{"the greatest epoch", func(w *api.World) { w.Epoch = billion }},
	})
	if !Right(api.World{Fuel: []int{0}, Limit: []int{0}}) {
		t.Error("the least world is not right")
	}
}

// P6.5: each limit is just exceeded, alone.
func TestWrongWorlds(t *testing.T) {
	judged(t, false, []spoilt{
		{"nothing", func(w *api.World) { *w = api.World{} }},
		{"1001 inputs", func(w *api.World) { w.Inputs = slices.Repeat([]api.Value{integer(3)}, 1001) }},
		{"1001 clocks", func(w *api.World) { w.Clocks = make([]int, 1001) }},
		{"1001 choices", func(w *api.World) { w.Choices = make([]int, 1001) }},
		{"a clock too great", func(w *api.World) { w.Clocks[1] = 1000*trillion + 1 }},
		{"a clock too small", func(w *api.World) { w.Clocks[1] = -1000*trillion - 1 }},
		{"a choice too great", func(w *api.World) { w.Choices[1] = billion + 1 }},
		{"a choice too small", func(w *api.World) { w.Choices[1] = -billion - 1 }},
		{"no tenant", func(w *api.World) { tenants(w, 0) }},
		{"nil tenants", func(w *api.World) { w.Fuel, w.Limit = nil, nil }},
		{"5 tenants", func(w *api.World) { tenants(w, 5) }},
		{"nil fuel", func(w *api.World) { w.Fuel = nil }},
		{"nil limits", func(w *api.World) { w.Limit = nil }},
		{"a fuel less", func(w *api.World) { w.Fuel = w.Fuel[:1] }},
		{"a fuel more", func(w *api.World) { w.Fuel = append(w.Fuel, 1) }},
		{"a limit less", func(w *api.World) { w.Limit = w.Limit[:1] }},
		{"a limit more", func(w *api.World) { w.Limit = append(w.Limit, 1) }},
		{"a fuel and 4 limits", func(w *api.World) { w.Fuel, w.Limit = []int{1}, make([]int, 4) }},
		{"4 fuels and a limit", func(w *api.World) { w.Fuel, w.Limit = make([]int, 4), []int{1} }},
		{"a fuel too great", func(w *api.World) { w.Fuel[1] = 1000*trillion + 1 }},
		{"a fuel too small", func(w *api.World) { w.Fuel[1] = -1 }},
		{"a limit too great", func(w *api.World) { w.Limit[1] = 30001 }},
		{"a limit too small", func(w *api.World) { w.Limit[1] = -1 }},
		{"an epoch too great", func(w *api.World) { w.Epoch = billion + 1 }},
		{"an epoch too small", func(w *api.World) { w.Epoch = -1 }},
	})
}

// P6.5: the greatest and the least ints in every place.
func TestWorldsOfExtremes(t *testing.T) {
	for _, n := range []int{math.MinInt, math.MinInt + 1, math.MaxInt - 1, math.MaxInt} {
		judged(t, false, []spoilt{
			{"inputs", func(w *api.World) { w.Inputs[2].N = n }},
			{"clocks", func(w *api.World) { w.Clocks[0] = n }},
			{"choices", func(w *api.World) { w.Choices[0] = n }},
			{"fuel", func(w *api.World) { w.Fuel[0] = n }},
			{"limit", func(w *api.World) { w.Limit[0] = n }},
			{"epoch", func(w *api.World) { w.Epoch = n }},
		})
	}
}

// P6.5: an element that is wrong is found wherever it is, and all others are right.
func TestWrongElements(t *testing.T) {
	for _, at := range []int{0, 1, 499, 998, 999} {
		judged(t, false, []spoilt{
			{"inputs", func(w *api.World) { w.Inputs = slices.Repeat(w.Inputs, 250); w.Inputs[at] = api.Value{} }},
			{"clocks", func(w *api.World) { w.Clocks = make([]int, 1000); w.Clocks[at] = 1000*trillion + 1 }},
			{"choices", func(w *api.World) { w.Choices = make([]int, 1000); w.Choices[at] = -billion - 1 }},
		})
	}
	for at := range 4 {
		judged(t, false, []spoilt{
			{"fuel", func(w *api.World) { tenants(w, 4); w.Fuel[at] = -1 }},
			{"limit", func(w *api.World) { tenants(w, 4); w.Limit[at] = 30001 }},
		})
	}
}

// P6.5: which values may be inputs: right ones, of four kinds.
func TestInputs(t *testing.T) {
	with := func(v api.Value) api.World {
		w := world()
		w.Inputs = []api.Value{integer(1), v, str("")}
		return w
	}
	printable := ""
	for c := byte(32); c <= 126; c++ {
		printable += string(rune(c))
	}
	for _, v := range []api.Value{
		{Kind: api.Nil}, {Kind: api.Bool}, {Kind: api.Bool, N: 1}, integer(0), integer(1000 * trillion), integer(-1000 * trillion),
		str(""), str(printable), str(strings.Repeat("'", 200)),
	} {
		if !Right(with(v)) {
			t.Errorf("%+v is no input", v)
		}
	}
	for _, v := range []api.Value{
		{}, {Kind: api.Ref}, {Kind: api.Ref, N: 5}, {Kind: api.Fun}, {Kind: api.Fun, N: 1}, {Kind: 7}, {Kind: -1}, {Kind: math.MaxInt}, {Kind: math.MinInt},
		{Kind: api.Nil, N: 1}, {Kind: api.Nil, N: -1}, {Kind: api.Nil, S: "x"},
		{Kind: api.Bool, N: 2}, {Kind: api.Bool, N: -1}, {Kind: api.Bool, S: "x"},
		integer(1000*trillion + 1), integer(-1000*trillion - 1), {Kind: api.Int, S: "7"},
		{Kind: api.Str, N: 1}, {Kind: api.Str, N: -1, S: "a"}, str(strings.Repeat("x", 201)), str("\x1f"), str("a\x7f"), str("\x80"), str("\n"), str("a\x00"), str("ä"),
	} {
		if Right(with(v)) {
			t.Errorf("%+v is an input", v)
		}
	}
}

// P6.5: lists that are far longer than those of any right world, of elements that are right.
func TestLongLists(t *testing.T) {
	many := 10 * million
	judged(t, false, []spoilt{
		{"inputs", func(w *api.World) { w.Inputs = slices.Repeat([]api.Value{{Kind: api.Nil}}, million) }},
		{"clocks", func(w *api.World) { w.Clocks = make([]int, many) }},
		{"choices", func(w *api.World) { w.Choices = make([]int, many) }},
		{"tenants", func(w *api.World) { tenants(w, many) }},
		{"fuel", func(w *api.World) { w.Fuel = make([]int, many) }},
		{"limits", func(w *api.World) { w.Limit = make([]int, many) }},
	})
}

// R3: the world that is passed is not changed, nor what lies behind its lists.
func TestRightMemory(t *testing.T) {
	roomy := func() api.World {
		w := world()
		w.Inputs = append(w.Inputs, str("behind"))[:4]
		w.Clocks = append(w.Clocks, 11)[:3]
		w.Choices = append(w.Choices, 12)[:3]
		w.Fuel = append(w.Fuel, 13)[:2]
		w.Limit = append(w.Limit, 14)[:2]
		return w
	}
	whole := func(w api.World) api.World {
		return api.World{Inputs: w.Inputs[:5], Clocks: w.Clocks[:4], Choices: w.Choices[:4], Fuel: w.Fuel[:3], Limit: w.Limit[:3], Epoch: w.Epoch}
	}
	for _, epoch := range []int{10, -1} {
		w, kept := roomy(), roomy()
		w.Epoch, kept.Epoch = epoch, epoch
		if Right(w) != (epoch == 10) || Right(w) != (epoch == 10) {
			t.Errorf("Right of a world with the epoch %d", epoch)
		}
		if !reflect.DeepEqual(whole(w), whole(kept)) {
			t.Errorf("the world is changed: %+v", whole(w))
		}
	}
}
