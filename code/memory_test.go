package code

import (
	"reflect"
	"slices"
	"testing"

	"facsimile/api"
)

// piece is the memory of a list, up to its capacity.
type piece struct {
	path       string
	from, past uintptr
}

// pieces returns the memory of all lists in v.
func pieces(v reflect.Value, path string) []piece {
	var list []piece
	switch v.Kind() {
	case reflect.Struct:
		for n := range v.NumField() {
			list = append(list, pieces(v.Field(n), path+"."+v.Type().Field(n).Name)...)
		}
	case reflect.Slice:
		if size := uintptr(v.Cap()) * v.Type().Elem().Size(); size > 0 {
			list = append(list, piece{path, v.Pointer(), v.Pointer() + size})
		}
		for n := range v.Len() {
			list = append(list, pieces(v.Index(n), path+"[]")...)
		}
	}
	return list
}

// areApart checks that no two lists share memory.
func areApart(t *testing.T, list []piece) {
	t.Helper()
	slices.SortFunc(list, func(a, b piece) int {
		if a.from < b.from {
			return -1
		}
		return 1
	})
	for n := 1; n < len(list); n++ {
		if list[n].from < list[n-1].past {
			t.Errorf("%s and %s share memory", list[n-1].path, list[n].path)
		}
	}
}

// R3: what Compile returns shares no memory with its arguments, with another result, nor with itself.
func TestResultsShareNothing(t *testing.T) {
	for seed := range 30 {
		p := randomProgram(t, uint64(seed))
		i := info(t, p)
		first, _ := Compile(p, i)
		second, e := Compile(p, i)
		if e != api.OK || len(first.Funcs) != len(p.Funcs) {
			t.Fatalf("error %d", e)
		}
		list := slices.Concat(pieces(reflect.ValueOf(p), "program"), pieces(reflect.ValueOf(i), "info"))
		list = append(list, pieces(reflect.ValueOf(first), "first")...)
		areApart(t, append(list, pieces(reflect.ValueOf(second), "second")...))
	}
}

// roomy returns a copy of v whose lists have room for more elements after their ends, with something in it.
func roomy(v reflect.Value) reflect.Value {
	copied := reflect.New(v.Type()).Elem()
	switch v.Kind() {
	case reflect.Struct:
		for n := range v.NumField() {
			copied.Field(n).Set(roomy(v.Field(n)))
		}
	case reflect.Slice:
		list := reflect.MakeSlice(v.Type(), v.Len()+3, v.Len()+3)
		for n := range v.Len() {
			list.Index(n).Set(roomy(v.Index(n)))
		}
		for n := v.Len(); n < list.Len(); n++ {
			fill(list.Index(n))
		}
		copied.Set(list.Slice(0, v.Len()))
	default:
		copied.Set(v)
	}
	return copied
}

// fill puts something into all numbers, strings and bools of v.
func fill(v reflect.Value) {
	switch v.Kind() {
	case reflect.Int:
		v.SetInt(77)
	case reflect.String:
		v.SetString("room")
	case reflect.Struct:
		for n := range v.NumField() {
			fill(v.Field(n))
		}
	}
}

// whole returns a copy of v in which all lists are as long as their capacity.
func whole(v reflect.Value) reflect.Value {
	copied := reflect.New(v.Type()).Elem()
	switch v.Kind() {
	case reflect.Struct:
		for n := range v.NumField() {
			copied.Field(n).Set(whole(v.Field(n)))
		}
	case reflect.Slice:
		for n := range v.Cap() {
			copied.Set(reflect.Append(copied, whole(v.Slice(0, v.Cap()).Index(n))))
		}
	default:
		copied.Set(v)
	}
	return copied
}

// stays returns an argument whose lists have room, and a function that checks that nothing in it was changed, nor in this room.
func stays[T any](t *testing.T, what string, argument T) (T, func()) {
	given := roomy(reflect.ValueOf(&argument).Elem()).Interface().(T)
	was := whole(reflect.ValueOf(given)).Interface()
	return given, func() {
		t.Helper()
		if now := whole(reflect.ValueOf(given)).Interface(); !reflect.DeepEqual(now, was) {
			t.Errorf("%s became %+v, was %+v", what, now, was)
		}
	}
}

// R3: programs, Infos and codes that are passed are not changed.
func TestArgumentsStay(t *testing.T) {
	for seed := range 30 {
		original := randomProgram(t, uint64(seed))
		p, program := stays(t, "program", original)
		i, known := stays(t, "info", info(t, original))
		compiledOnce, e := Compile(p, i)
		if e != api.OK {
			t.Fatalf("error %d", e)
		}
		Compile(p, api.Info{})
		Compile(api.Program{Funcs: p.Funcs[1:]}, i)
		program()
		known()
		c, given := stays(t, "code", compiledOnce)
		Text(c)
		Equal(c, c)
		Equal(compiledOnce, c)
		for fun := range c.Funcs {
			for n := -1; n < 8; n++ {
				Pc(c, api.Place{Fun: fun, Line: n})
				Place(c, fun, n, 0)
				Catch(c, fun, n, n%2 == 0)
			}
		}
		given()
	}
}

// R3: a code stays as it is, whatever becomes of the program and the Info from which it was made.
func TestCodeKeepsNoArguments(t *testing.T) {
	p := parsed(t, sample)
	i := info(t, p)
	c, _ := Compile(p, i)
	was := Text(c)
	spoil(reflect.ValueOf(&p).Elem())
	spoil(reflect.ValueOf(&i).Elem())
	if Text(c) != was || !Equal(c, compiled(t, parsed(t, sample))) {
		t.Errorf("%q became %q", was, Text(c))
	}
}

// spoil changes all that the lists in v have.
func spoil(v reflect.Value) {
	switch v.Kind() {
	case reflect.Struct:
		for n := range v.NumField() {
			spoil(v.Field(n))
		}
	case reflect.Slice:
		for n := range v.Len() {
			spoil(v.Index(n))
			fill(v.Index(n))
		}
	}
}

// R4: there is no state: the same calls return the same, whatever was called in between.
func TestNoState(t *testing.T) {
	p, q := parsed(t, sample), mainOf(t, "try; x = 1; finally; end")
	first := Text(compiled(t, p))
	other := Text(compiled(t, q))
	refuses(t, "no Info", p, api.Info{}, api.ErrArg)
	for range 3 {
		if Text(compiled(t, p)) != first || Text(compiled(t, q)) != other {
			t.Error("another text")
		}
	}
}
