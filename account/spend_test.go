package account

import (
	"math"
	"math/big"
	"slices"
	"testing"

	"facsimile/api"
)

// spent checks what Spend returns; with a nil list it returns false.
func spent(t *testing.T, fuel []int, tenant, n int, want []int) {
	t.Helper()
	got, ok := Spend(fuel, tenant, n)
	if !slices.Equal(got, want) || ok != (want != nil) {
		t.Errorf("Spend(%v, %d, %d) = %v, %v", fuel, tenant, n, got, ok)
	}
}

// P6.1: the examples of the chapter, and each tenant alone.
func TestSpend(t *testing.T) {
	spent(t, []int{5, 7}, 1, 3, []int{5, 4})
	spent(t, []int{5, 7}, 0, 6, nil)
	spent(t, []int{9}, 0, 4, []int{5})
	spent(t, []int{10, 20, 30, 40}, 0, 1, []int{9, 20, 30, 40})
	spent(t, []int{10, 20, 30, 40}, 1, 2, []int{10, 18, 30, 40})
	spent(t, []int{10, 20, 30, 40}, 2, 3, []int{10, 20, 27, 40})
	spent(t, []int{10, 20, 30, 40}, 3, 4, []int{10, 20, 30, 36})
}

// P6.1: a tenant that is no index.
func TestSpendOfNoTenant(t *testing.T) {
	for _, fuel := range [][]int{nil, {}, {5}, {5, 5}, {5, 5, 5, 5}, make([]int, 2, 9)} {
		for _, tenant := range []int{math.MinInt, -5, -2, -1, len(fuel), len(fuel) + 1, math.MaxInt} {
			for _, n := range []int{-1, 0, 1, 5} {
				spent(t, fuel, tenant, n, nil)
			}
		}
	}
}

// P6.1: what is just left, and one more; nothing; less than nothing.
func TestSpendOfWhatIsLeft(t *testing.T) {
	for _, left := range []int{0, 1, 2, 9, api.MaxInt, math.MaxInt - 1} {
		fuel := []int{3, left}
		spent(t, fuel, 1, left, []int{3, 0})
		spent(t, fuel, 1, left+1, nil)
		spent(t, fuel, 1, 0, []int{3, left})
		spent(t, fuel, 1, -1, nil)
		spent(t, fuel, 1, -left-1, nil)
	}
}

// P6.1: only the tenant's own element counts, and the others may be any ints, as many as there are.
func TestSpendOfOthers(t *testing.T) {
	spent(t, []int{-4, 6, math.MinInt}, 1, 6, []int{-4, 0, math.MinInt})
	spent(t, []int{100, 6, math.MaxInt}, 1, 7, nil)
	fuel := make([]int, 100000)
	fuel[99999] = 2
	want := slices.Clone(fuel)
	want[99999] = 1
	spent(t, fuel, 99999, 1, want)
	spent(t, fuel, 99998, 1, nil)
}

// P6.1: the greatest and the least ints, against ints without limits.
func TestSpendOfExtremes(t *testing.T) {
	for _, left := range extremes() {
		for _, n := range extremes() {
			var want []int
			rest := new(big.Int).Sub(number(left), number(n))
			if n >= 0 && rest.Sign() >= 0 {
				want = []int{1, int(rest.Int64()), 2}
			}
			spent(t, []int{1, left, 2}, 1, n, want)
			for _, tenant := range []int{math.MinInt, math.MaxInt} {
				spent(t, []int{left, left}, tenant, n, nil)
			}
		}
	}
}

// P6.6: spending m and then n is the same as spending both together.
func TestSpendTwice(t *testing.T) {
	for left := -2; left < 9; left++ {
		for m := range 10 {
			for n := range 10 {
				fuel := []int{left, left}
				want, all := Spend(fuel, 1, m+n)
				got, ok := Spend(fuel, 1, m)
				if ok {
					got, ok = Spend(got, 1, n)
				}
				if ok != all || !slices.Equal(got, want) && all {
					t.Errorf("of %d, %d and %d: %v, %v, and together %v, %v", left, m, n, got, ok, want, all)
				}
			}
		}
	}
}

// R3: the list that is passed is not changed, and results share no memory with it or with each other.
func TestSpendMemory(t *testing.T) {
	whole := []int{8, 9, 10, 11}
	fuel := whole[:2]
	unchanged := func(what string) {
		t.Helper()
		if !slices.Equal(whole, []int{8, 9, 10, 11}) {
			t.Errorf("%s: %v", what, whole)
		}
	}
	for _, n := range []int{0, 3} {
		first, _ := Spend(fuel, 1, n)
		second, _ := Spend(fuel, 1, n)
		unchanged("Spend")
		_ = append(first, 77, 77)
		first[0], first[1] = 55, 66
		unchanged("whoever changes a result")
		if !slices.Equal(second, []int{8, 9 - n}) {
			t.Errorf("results share memory: %v", second)
		}
		fuel[0] = 44
		if !slices.Equal(second, []int{8, 9 - n}) {
			t.Errorf("a result shares memory with the list: %v", second)
		}
		fuel[0] = 8
	}
	Spend(fuel, 1, 10)
	Spend(fuel, 2, 1)
	Spend(fuel, 0, -1)
	unchanged("Spend that fails")
}
