package account

import (
	"math"
	"math/rand/v2"
	"reflect"
	"slices"
	"strings"
	"testing"

	"facsimile/api"
)

// P6.3: the example of the chapter, what just fits, and one more.
func TestFits(t *testing.T) {
	for _, c := range []struct {
		used, limit, size int
		want              bool
	}{
		{100, 124, 24, true}, {100, 124, 25, false}, {101, 124, 24, false}, {100, 123, 24, false},
		{0, 0, 0, true}, {0, 0, 1, false}, {0, api.MaxLimit, api.MaxLimit, true}, {0, api.MaxLimit, api.MaxLimit + 1, false},
		{124, 124, 0, true}, {124, 124, 1, false}, {124, 124, -1, false}, {100, 124, -1, false},
		{125, 124, 0, false}, {125, 124, -1, false}, {125, 124, -24, false}, {125, 124, 16, false},
		{-10, 5, 15, true}, {-10, 5, 16, false}, {-10, 5, -1, false},
		{-10, -10, 0, true}, {-10, -11, 0, false}, {-10, -5, 5, true}, {-10, -5, 6, false},
		{5, -5, 0, false}, {5, -5, 5, false},
	} {
		if got := Fits(c.used, c.limit, c.size); got != c.want {
			t.Errorf("Fits(%d, %d, %d) = %v", c.used, c.limit, c.size, got)
		}
	}
}

// P6.3: all small numbers.
func TestFitsOfSmallNumbers(t *testing.T) {
	for used := -12; used <= 12; used++ {
		for limit := -12; limit <= 12; limit++ {
			for size := -12; size <= 30; size++ {
				if got, want := Fits(used, limit, size), size >= 0 && used+size <= limit; got != want {
					t.Errorf("Fits(%d, %d, %d) = %v", used, limit, size, got)
				}
			}
		}
	}
}

func fitsUnlimited(used, limit, size int) bool {
	return size >= 0 && sum(used, size).Cmp(number(limit)) <= 0
}

// P6.3: the greatest and the least ints in every place, against ints without limits.
func TestFitsOfExtremes(t *testing.T) {
	for _, used := range extremes() {
		for _, limit := range extremes() {
			for _, size := range extremes() {
				if got := Fits(used, limit, size); got != fitsUnlimited(used, limit, size) {
					t.Errorf("Fits(%d, %d, %d) = %v", used, limit, size, got)
				}
			}
		}
	}
	if Fits(math.MaxInt, math.MaxInt, 1) || Fits(1, math.MinInt, math.MaxInt) || !Fits(math.MinInt, -1, math.MaxInt) || Fits(math.MinInt, -2, math.MaxInt) {
		t.Error("Fits of the greatest and the least ints")
	}
}

// P6.3: ints of all sizes; the size is often just what is left.
func TestFitsOfManyInts(t *testing.T) {
	r := rand.New(rand.NewPCG(6, 3))
	for range 200000 {
		used, limit, size := somewhere(r), somewhere(r), somewhere(r)
		if r.IntN(2) == 0 {
			size = limit - used + r.IntN(3) - 1
		}
		if got := Fits(used, limit, size); got != fitsUnlimited(used, limit, size) {
			t.Errorf("Fits(%d, %d, %d) = %v", used, limit, size, got)
		}
	}
}

// owned returns a cell of a tenant with so many items.
func owned(tenant, items int) api.Entry {
	return api.Entry{Cell: api.Cell{Kind: api.Array, Tenant: tenant, Items: make([]api.Value, items)}}
}

// P6.4: the example of the chapter.
func TestSumsExample(t *testing.T) {
	object := api.Cell{Kind: api.Object, Tenant: 1, Names: []string{"x", "y"}, Items: []api.Value{{Kind: api.Nil}, {Kind: api.Int, N: 7}}}
	if got := Sums([]api.Entry{{Id: 3, Cell: object}}, 2); !slices.Equal(got, []int{0, 32}) {
		t.Errorf("Sums = %v", got)
	}
}

// P6.4: numbers of tenants, and tenants of cells that are none of them.
func TestSumsOfTenants(t *testing.T) {
	l := []api.Entry{owned(3, 3), owned(0, 0), owned(1, 1), owned(2, 2), owned(0, 5), owned(-1, 1), owned(4, 1), owned(math.MinInt, 1), owned(math.MaxInt, 1), owned(3, 64)}
	all := []int{16 + 56, 24, 32, 40 + 528}
	for tenants := 1; tenants <= 4; tenants++ {
		if got := Sums(l, tenants); !slices.Equal(got, all[:tenants]) {
			t.Errorf("of %d tenants: %v", tenants, got)
		}
		for _, none := range [][]api.Entry{nil, {}, {owned(-1, 2), owned(tenants, 2)}} {
			if got := Sums(none, tenants); !slices.Equal(got, make([]int, tenants)) {
				t.Errorf("of %d tenants without cells: %v", tenants, got)
			}
		}
	}
	for _, tenants := range []int{math.MinInt, -4, -1, 0, 5, 6, math.MaxInt} {
		for _, cells := range [][]api.Entry{nil, {}, l} {
			if got := Sums(cells, tenants); len(got) != 0 {
				t.Errorf("of %d tenants: %v", tenants, got)
			}
		}
	}
}

// P6.4: the size of a cell depends on its number of items alone, whatever else it has.
func TestSumsOfSizes(t *testing.T) {
	long := api.Value{Kind: api.Str, S: strings.Repeat("x", 300)}
	for kind := -1; kind <= api.Weak+1; kind++ {
		for _, items := range []int{0, 1, 2, 63, 64, 65, 1000} {
			c := api.Cell{Kind: kind, Class: 5, Fun: -6, Names: []string{"a", "b", "c"}, Items: slices.Repeat([]api.Value{long}, items)}
			if got := Sums([]api.Entry{{Id: -7, Cell: c}}, 1); !slices.Equal(got, []int{16 + 8*items}) {
				t.Errorf("kind %d with %d items: %v", kind, items, got)
			}
			c.Items = slices.Grow(c.Items, 50)
			c.Names = nil
			if got := Sums([]api.Entry{{Id: math.MaxInt, Cell: c}}, 4); !slices.Equal(got, []int{16 + 8*items, 0, 0, 0}) {
				t.Errorf("kind %d with %d items and room for more: %v", kind, items, got)
			}
		}
	}
}

// P6.4: cells with the same id, and equal cells, all count.
func TestSumsOfEqualCells(t *testing.T) {
	for n := range 5 {
		if got := Sums(slices.Repeat([]api.Entry{owned(1, 2)}, n), 2); !slices.Equal(got, []int{0, 32 * n}) {
			t.Errorf("%d equal cells: %v", n, got)
		}
	}
}

// P6.4: more cells than there can be in a heap.
func TestSumsOfManyCells(t *testing.T) {
	items := make([]api.Value, 64)
	l := make([]api.Entry, 400000)
	for n := range l {
		l[n].Cell = api.Cell{Tenant: n % 8, Items: items}
	}
	if got := Sums(l, 4); !slices.Equal(got, []int{26400000, 26400000, 26400000, 26400000}) {
		t.Errorf("Sums = %v", got)
	}
}

// P6.6: the sums of two lists together are the sums of both, in any order.
func TestSumsOfTwoLists(t *testing.T) {
	r := rand.New(rand.NewPCG(6, 6))
	random := func() []api.Entry {
		var l []api.Entry
		for range r.IntN(20) {
			l = append(l, owned(r.IntN(8)-2, r.IntN(70)))
		}
		return l
	}
	for range 300 {
		first, second, tenants := random(), random(), 1+r.IntN(4)
		want := Sums(first, tenants)
		for tenant, bytes := range Sums(second, tenants) {
			want[tenant] += bytes
		}
		both := slices.Concat(first, second)
		r.Shuffle(len(both), func(a, b int) { both[a], both[b] = both[b], both[a] })
		if got := Sums(both, tenants); !slices.Equal(got, want) {
			t.Errorf("of %d tenants: %v, not %v", tenants, got, want)
		}
	}
}

// Way: who goes through the cells may stop at any of them.
func TestCellsOf(t *testing.T) {
	l := []api.Entry{owned(0, 1), owned(2, 2), owned(1, 3), owned(-1, 4), owned(1, 5)}
	for most := 1; most <= 4; most++ {
		var items []int
		for c := range cellsOf(l, 2) {
			items = append(items, len(c.Items))
			if len(items) == most {
				break
			}
		}
		if want := []int{1, 3, 5}[:min(most, 3)]; !slices.Equal(items, want) {
			t.Errorf("up to %d cells: %v", most, items)
		}
	}
}

// R3: the cells that are passed are not changed, and no two results share memory.
func TestSumsMemory(t *testing.T) {
	cells := func() []api.Entry {
		return []api.Entry{
			{Id: 4, Cell: api.Cell{Kind: api.Object, Class: 1, Tenant: 1, Names: []string{"x"}, Items: []api.Value{{Kind: api.Str, S: "s"}}}},
			{Id: 5, Cell: api.Cell{Kind: api.Weak, Tenant: 9, Items: []api.Value{{Kind: api.Ref, N: 4}}}},
		}
	}
	l := cells()
	first, second := Sums(l, 2), Sums(l, 2)
	first[0], first[1] = 77, 88
	_ = append(first, 99)
	if !slices.Equal(second, []int{0, 24}) || !slices.Equal(Sums(l, 2), []int{0, 24}) {
		t.Errorf("results share memory: %v, %v", second, Sums(l, 2))
	}
	Sums(l, 5)
	if !reflect.DeepEqual(l, cells()) {
		t.Errorf("the cells are changed: %v", l)
	}
}
