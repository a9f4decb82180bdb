package verify

import (
	"math/rand/v2"
	"reflect"
	"slices"
	"testing"

	"facsimile/api"
	"facsimile/check"
)

// roomy returns a copy of v whose lists have room for more elements after their ends, with something in it.
func roomy(v reflect.Value) reflect.Value {
	copied := reflect.New(v.Type()).Elem()
	switch v.Kind() {
	case reflect.Struct:
		for n := range v.NumField() {
			copied.Field(n).Set(roomy(v.Field(n)))
		}
	case reflect.Slice:
		list := reflect.MakeSlice(v.Type(), v.Len()+3, v.Len()+3)
		for n := range v.Len() {
			list.Index(n).Set(roomy(v.Index(n)))
		}
		for n := v.Len(); n < list.Len(); n++ {
			fill(list.Index(n))
		}
		copied.Set(list.Slice(0, v.Len()))
	default:
		copied.Set(v)
	}
	return copied
}

// fill puts something into all numbers, strings and bools of v.
func fill(v reflect.Value) {
	switch v.Kind() {
	case reflect.Int:
		v.SetInt(77)
	case reflect.String:
		v.SetString("room")
	case reflect.Bool:
		v.SetBool(true)
	case reflect.Struct:
		for n := range v.NumField() {
			fill(v.Field(n))
		}
	}
}

// whole returns a copy of v in which all lists are as long as their capacity.
func whole(v reflect.Value) reflect.Value {
	copied := reflect.New(v.Type()).Elem()
	switch v.Kind() {
	case reflect.Struct:
		for n := range v.NumField() {
			copied.Field(n).Set(whole(v.Field(n)))
		}
	case reflect.Slice:
		for n := range v.Cap() {
			copied.Set(reflect.Append(copied, whole(v.Slice(0, v.Cap()).Index(n))))
		}
	default:
		copied.Set(v)
	}
	return copied
}

// stays returns an argument whose lists have room, and a function that checks that nothing in it was changed, nor in this room.
func stays[T any](t *testing.T, what string, argument T) (T, func()) {
	given := roomy(reflect.ValueOf(&argument).Elem()).Interface().(T)
	was := whole(reflect.ValueOf(given)).Interface()
	return given, func() {
		t.Helper()
		if now := whole(reflect.ValueOf(given)).Interface(); !reflect.DeepEqual(now, was) {
			t.Errorf("%s became %+v, was %+v", what, now, was)
		}
	}
}

// R3: programs, Infos and codes that are passed are not changed, whether they are accepted or not.
func TestArgumentsStay(t *testing.T) {
	errors := map[api.Errno]bool{}
	for seed := range uint64(150) {
		r := rand.New(rand.NewPCG(6, seed))
		original := randomProgram(t, seed)
		changed := compiled(t, original)
		fun := r.IntN(len(changed.Funcs))
		if seed%10 > 0 {
			change(r, &changed.Funcs[fun], len(original.Funcs[fun].Lines))
		}
		p, program := stays(t, "program", original)
		i, known := stays(t, "info", info(t, original))
		c, given := stays(t, "code", changed)
		_, e := Check(p, i, c)
		errors[e] = true
		Check(p, api.Info{}, c)
		Check(api.Program{Funcs: p.Funcs[1:]}, i, c)
		Check(p, i, api.Code{Classes: c.Classes, Names: c.Names, Funcs: c.Funcs[1:]})
		for fun := -1; fun <= len(c.Funcs); fun++ {
			Reached(c, fun)
		}
		program()
		known()
		given()
	}
	if len(errors) != 6 {
		t.Errorf("only the errors %v", errors)
	}
}

// R3: what Reached returns shares no memory with another result, and there is nothing that it keeps.
func TestResultsShareNothing(t *testing.T) {
	c := compiled(t, parsed(t, sample))
	for fun := range c.Funcs {
		first, second := Reached(c, fun), Reached(c, fun)
		want := reachedBySweeps(c.Funcs[fun])
		for n := range first[:cap(first)] {
			first[:cap(first)][n] = n >= len(want) || !want[n]
		}
		if !slices.Equal(second, want) || !slices.Equal(Reached(c, fun), want) {
			t.Errorf("function %d: %v, %v, want %v", fun, second, Reached(c, fun), want)
		}
	}
}

// R4: there is no state: the same calls return the same, whatever was called in between.
func TestNoState(t *testing.T) {
	p, q := parsed(t, sample), mainOf(t, both)
	good, other := compiled(t, p), compiled(t, q)
	bad := cloned(good)
	bad.Funcs[1].Ins[4].A++
	for range 3 {
		gives(t, "a right code", p, good, api.Place{}, api.OK)
		gives(t, "a wrong code", p, bad, api.Place{Fun: 1, Line: 4}, api.ErrSlot)
		gives(t, "a code of another program", p, other, api.Place{Fun: -1}, api.ErrCode)
		gives(t, "another program", q, other, api.Place{}, api.OK)
		otherInfo(t, "another Info", p, info(t, q))
		if got := marks(Reached(other, 0)); got != "1101111111" {
			t.Errorf("Reached = %s", got)
		}
	}
}

// P1: with any program, any Info and any code all functions end without a panic, and the first errors are those of check.Check and of the Info.
func TestAnyArguments(t *testing.T) {
	r := rand.New(rand.NewPCG(7, 7))
	known := info(t, parsed(t, sample))
	infos := []api.Info{{}, known, {Slots: [][]string{nil}, Ends: [][]int{{5, -7, 0}}, Parent: [][]int{{0, 1, 2}}}}
	programs := []api.Program{{}, {Classes: make([]api.Class, 1000), Funcs: make([]api.Func, 1000)}, {Funcs: []api.Func{{Name: "main", Lines: make([]api.Line, 100000)}}}}
	try, while, end := api.Line{Op: api.OpTry}, api.Line{Op: api.OpWhile, A: "a"}, api.Line{Op: api.OpEnd}
	for op := -1; op <= api.BLeave; op++ {
		for _, lines := range [][]api.Line{
			{{Op: op}}, {{Op: op, A: "a"}, {Op: op}}, {try, {Op: op, A: "a"}, end}, {try, {Op: op, A: "a"}, {Op: api.OpFinally}, end},
			{while, {Op: op, A: "a", B: "b"}, end}, {while, {Op: op, A: "a", B: "b", C: "c"}, end}, {while, {Op: op, A: "a", Name: "main"}, end},
		} {
			programs = append(programs, api.Program{Funcs: []api.Func{{Name: "main", Lines: lines}}})
		}
	}
	accepted := 0
	for _, p := range programs {
		own, place, e := check.Check(p)
		for _, i := range infos {
			want := api.ErrArg
			if e != api.OK {
				want = e
			}
			if at, got := Check(p, i, randomCode(r, p)); at != place || got != want {
				t.Fatalf("error %d at %v, want %d at %v", got, at, want, place)
			}
		}
		if e != api.OK {
			continue
		}
		accepted++
		for range 200 {
			like(t, p, own, randomCode(r, p))
		}
	}
	if accepted < 20 {
		t.Errorf("%d programs are accepted", accepted)
	}
}

// randomCode returns a code with the classes, names and slots of a program, and anything else.
func randomCode(r *rand.Rand, p api.Program) api.Code {
	number := func() int {
		if r.IntN(20) == 0 {
			return []int{-1 << 63, 1<<63 - 1, -1000, 1000}[r.IntN(4)]
		}
		return r.IntN(8) - 2
	}
	numbers := func() []int {
		var list []int
		for range r.IntN(4) {
			list = append(list, number())
		}
		return list
	}
	i, _, _ := check.Check(p)
	c := api.Code{Classes: p.Classes}
	for fun, slots := range i.Slots {
		f := api.CodeFunc{Params: len(p.Funcs[fun].Params), Slots: len(slots)}
		for range r.IntN(4) {
			op := r.IntN(47) - 1
			if op > api.OpEnd {
				op += api.BNop - api.OpEnd - 1
			}
			f.Ins = append(f.Ins, api.Instr{Op: op, A: number(), B: number(), C: number(), Args: numbers(), K: api.Value{Kind: r.IntN(9) - 1}, Lines: numbers()})
		}
		for range r.IntN(4) {
			f.Handlers = append(f.Handlers, api.Handler{From: number(), To: number(), Target: number(), Slot: number(), Finally: r.IntN(2) == 0})
		}
		c.Names = append(c.Names, p.Funcs[fun].Name)
		c.Funcs = append(c.Funcs, f)
	}
	return c
}
