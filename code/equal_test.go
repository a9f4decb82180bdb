package code

import (
	"reflect"
	"testing"

	"facsimile/api"
)

// full has at least two elements in each list, and something in each field.
func full() api.Code {
	method := func(n, f string) api.Method { return api.Method{Name: n, Func: f} }
	ins := func(n int) api.Instr {
		return api.Instr{Op: n, A: n + 1, B: n + 2, C: n + 3, Args: []int{n, n + 4}, K: api.Value{Kind: api.Int, N: n, S: "k"}, Lines: []int{n + 5, n + 6}}
	}
	handler := func(n int) api.Handler {
		return api.Handler{From: n, To: n + 1, Target: n + 2, Slot: n + 3, Finally: n%2 == 0}
	}
	return api.Code{
		Classes: []api.Class{{Name: "P", Fields: []string{"x", "y"}, Methods: []api.Method{method("a", "f"), method("b", "g")}}, {Name: "Q", Fields: []string{"z", "x"}, Methods: []api.Method{method("c", "g"), method("d", "f")}}},
		Names:   []string{"f", "g", "h"},
		Funcs:   []api.CodeFunc{{Params: 1, Slots: 2, Ins: []api.Instr{ins(10), ins(20)}, Handlers: []api.Handler{handler(30), handler(41)}}, {Params: 3, Slots: 4, Ins: []api.Instr{ins(50), ins(60)}, Handlers: []api.Handler{handler(70), handler(81)}}},
	}
}

// changes calls look once for each change of one thing in v, which is there while it looks: another number, string or bool, an element more or less, or no list at all.
func changes(v reflect.Value, path string, look func(what string)) {
	set := func(what string, to reflect.Value) {
		was := reflect.ValueOf(v.Interface())
		v.Set(to)
		look(path + what)
		v.Set(was)
	}
	switch v.Kind() {
	case reflect.Int:
		set(" + 1", reflect.ValueOf(int(v.Int())+1))
		set(" negative", reflect.ValueOf(-int(v.Int())-1))
	case reflect.String:
		set(" longer", reflect.ValueOf(v.String()+"!"))
		if v.String() != "" {
			set(" gone", reflect.ValueOf(""))
		}
	case reflect.Bool:
		set(" the other", reflect.ValueOf(!v.Bool()))
	case reflect.Struct:
		for n := range v.NumField() {
			changes(v.Field(n), path+"."+v.Type().Field(n).Name, look)
		}
	case reflect.Slice:
		one := reflect.New(v.Type().Elem()).Elem()
		whole := v.Slice3(0, v.Len(), v.Len())
		set(" and a zero one", reflect.Append(whole, one))
		set(" and one twice", reflect.Append(whole, v.Index(v.Len()-1)))
		set(" without the last one", v.Slice(0, v.Len()-1))
		set(" without the first one", v.Slice(1, v.Len()))
		set(" gone", reflect.Zero(v.Type()))
		for n := range v.Len() {
			changes(v.Index(n), path+"[]", look)
		}
	}
}

// P9.4: codes with one thing changed, wherever it is, are not equal.
func TestEqualWithOneChange(t *testing.T) {
	a, b := full(), full()
	if !Equal(a, b) || !Equal(b, a) {
		t.Fatal("equal codes are not equal")
	}
	count := 0
	changes(reflect.ValueOf(&a).Elem(), "", func(what string) {
		count++
		if reflect.DeepEqual(a, b) {
			t.Fatalf("%s: the test has changed nothing", what)
		}
		if Equal(a, b) || Equal(b, a) {
			t.Errorf("%s: equal", what)
		}
		if !Equal(a, a) {
			t.Errorf("%s: not equal to itself", what)
		}
	})
	if !Equal(a, b) {
		t.Error("not equal after all changes were taken back")
	}
	if count != 261 {
		t.Errorf("%d changes", count)
	}
}

// P9.4: each thing that has a place in the text changes it.
func TestTextWithOneChange(t *testing.T) {
	c := full()
	c.Names = c.Names[:2]
	for f := range c.Funcs {
		for n := range c.Funcs[f].Ins {
			c.Funcs[f].Ins[n].K.S = ""
		}
	}
	was := Text(c)
	changes(reflect.ValueOf(&c).Elem(), "", func(what string) {
		if Text(c) == was && what != ".Names and a zero one" && what != ".Names and one twice" {
			t.Errorf("%s: the same text", what)
		}
	})
	if Text(c) != was {
		t.Error("another text after all changes were taken back")
	}
}

// R1: nil lists and empty ones are equal.
func TestEqualOfEmptyLists(t *testing.T) {
	empty := api.Code{Classes: []api.Class{}, Names: []string{}, Funcs: []api.CodeFunc{}}
	if !Equal(api.Code{}, empty) || !Equal(empty, api.Code{}) || !Equal(empty, empty) {
		t.Error("a code without lists")
	}
	a := api.Code{Classes: make([]api.Class, 1), Names: []string{""}, Funcs: []api.CodeFunc{{Ins: make([]api.Instr, 1)}, {}}}
	b := api.Code{Classes: []api.Class{{Fields: []string{}, Methods: []api.Method{}}}, Names: []string{""}, Funcs: []api.CodeFunc{{Ins: []api.Instr{{Args: []int{}, Lines: []int{}}}, Handlers: []api.Handler{}}, {Ins: []api.Instr{}}}}
	if !Equal(a, b) || !Equal(b, a) || Text(a) != Text(b) {
		t.Error("lists in lists")
	}
	if Equal(api.Code{}, a) || Equal(a, empty) {
		t.Error("an empty list and one with an element")
	}
}

// P9.4: elements that have changed their places are others.
func TestEqualOfSwappedElements(t *testing.T) {
	b := full()
	for n, swap := range []func(c *api.Code){
		func(c *api.Code) { c.Classes[0], c.Classes[1] = c.Classes[1], c.Classes[0] },
		func(c *api.Code) { f := c.Classes[0].Fields; f[0], f[1] = f[1], f[0] },
		func(c *api.Code) { m := c.Classes[1].Methods; m[0], m[1] = m[1], m[0] },
		func(c *api.Code) { c.Names[0], c.Names[2] = c.Names[2], c.Names[0] },
		func(c *api.Code) { c.Funcs[0], c.Funcs[1] = c.Funcs[1], c.Funcs[0] },
		func(c *api.Code) { i := c.Funcs[1].Ins; i[0], i[1] = i[1], i[0] },
		func(c *api.Code) { a := c.Funcs[0].Ins[1].Args; a[0], a[1] = a[1], a[0] },
		func(c *api.Code) { l := c.Funcs[1].Ins[0].Lines; l[0], l[1] = l[1], l[0] },
		func(c *api.Code) { i := &c.Funcs[1].Ins[0]; i.Args, i.Lines = i.Lines, i.Args },
		func(c *api.Code) { h := c.Funcs[0].Handlers; h[0], h[1] = h[1], h[0] },
	} {
		a := full()
		swap(&a)
		if Equal(a, b) || Equal(b, a) {
			t.Errorf("%d: equal", n)
		}
	}
}
