package heap

import (
	"math"
	"strings"
	"testing"

	"facsimile/api"
)

// P4.7: what is printed for each kind.
func TestShow(t *testing.T) {
	h := with(t, object(0, null), object(1, null, null), object(2), array(), array(repeat(64, null)...), closure(0), closure(2, null), closure(3), weak(null), weak(ref(0)), weak(ref(99)))
	classes := []api.Class{{Name: "Point"}, {Name: "P2", Fields: []string{"x"}}}
	names := []string{"main", "f", "g's"}
	for _, c := range []struct {
		v    api.Value
		want string
	}{
		{unset, "unset"}, {null, "nil"}, {yes, "true"}, {no, "false"},
		{integer(0), "0"}, {integer(-7), "-7"}, {integer(api.MaxInt), "1000000000000000"}, {integer(-api.MaxInt), "-1000000000000000"},
		{str(""), ""}, {str("a b"), "a b"}, {str("it's"), "it's"}, {str("'"), "'"}, {str("<weak>"), "<weak>"}, {str(strings.Repeat("x", 200)), strings.Repeat("x", 200)},
		{function(0), "<fun main>"}, {function(1), "<fun f>"}, {function(2), "<fun g's>"}, {function(3), "<fun ?>"}, {function(23), "<fun ?>"},
		{ref(0), "<Point>"}, {ref(1), "<P2>"}, {ref(2), "<?>"},
		{ref(3), "<array 0>"}, {ref(4), "<array 64>"},
		{ref(5), "<closure main>"}, {ref(6), "<closure g's>"}, {ref(7), "<closure ?>"},
		{ref(8), "<weak>"}, {ref(9), "<weak>"}, {ref(10), "<weak>"},
		{ref(11), "<none>"}, {ref(1000000000), "<none>"},
	} {
		if got := h.Show(classes, names, c.v); got != c.want {
			t.Errorf("Show(%+v) = %s, want %s", c.v, got, c.want)
		}
	}
}

// P4.7: lists that are too short, or are not there at all.
func TestShowWithoutNames(t *testing.T) {
	h := with(t, object(0), object(math.MaxInt), closure(0), closure(1), closure(math.MaxInt))
	for _, c := range []struct {
		classes, names, id int
		want               string
	}{
		{0, 9, 0, "<?>"}, {1, 0, 0, "<C>"}, {1, 9, 1, "<?>"}, {12, 0, 1, "<?>"},
		{9, 0, 2, "<closure ?>"}, {0, 1, 2, "<closure f>"}, {9, 1, 3, "<closure ?>"}, {0, 2, 3, "<closure f>"}, {9, 9, 4, "<closure ?>"},
	} {
		classes := make([]api.Class, c.classes)
		names := make([]string, c.names)
		for n := range classes {
			classes[n].Name = "C"
		}
		for n := range names {
			names[n] = "f"
		}
		if got := h.Show(classes, names, ref(c.id)); got != c.want {
			t.Errorf("Show of %d with %d classes and %d names = %s, want %s", c.id, c.classes, c.names, got, c.want)
		}
	}
	for _, n := range list(-1, 0, 1, math.MaxInt, math.MinInt) {
		if got := h.Show(nil, nil, function(n)); got != "<fun ?>" {
			t.Errorf("Show of the fun %d = %s", n, got)
		}
	}
	if got := h.Show([]api.Class{{}}, []string{""}, ref(0)) + h.Show(nil, []string{""}, function(0)); got != "<><fun >" {
		t.Errorf("Show with empty names = %s", got)
	}
}

// P4.7: values that are not right are shown by their Kind, and others not at all.
func TestShowOfValuesThatAreNotRight(t *testing.T) {
	h := with(t, array(null))
	for _, c := range []struct {
		v    api.Value
		want string
	}{
		{api.Value{Kind: 7, N: 1, S: "a"}, ""}, {api.Value{Kind: -1}, ""}, {api.Value{Kind: math.MaxInt}, ""}, {api.Value{Kind: math.MinInt, S: "a"}, ""},
		{api.Value{S: "a"}, "unset"}, {api.Value{Kind: api.Nil, N: 4}, "nil"},
		{integer(api.MaxInt + 1), "1000000000000001"}, {integer(math.MinInt), "-9223372036854775808"},
		{str("a\nb"), "a\nb"}, {str(strings.Repeat("é", 300)), strings.Repeat("é", 300)},
		{ref(-1), "<none>"}, {ref(math.MaxInt), "<none>"}, {api.Value{Kind: api.Ref, S: "a"}, "<array 1>"},
	} {
		if got := h.Show(nil, nil, c.v); got != c.want {
			t.Errorf("Show(%+v) = %.40s, want %.40s", c.v, got, c.want)
		}
	}
}
