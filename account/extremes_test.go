package account

import (
	"math"
	"math/big"

	"facsimile/api"
)

// extremes has ints from the least to the greatest, and their neighbours; sums and differences of many of them are no ints of Go.
func extremes() []int {
	return []int{math.MinInt, math.MinInt + 1, math.MinInt + 2, math.MinInt/2 - 1, math.MinInt / 2, -api.MaxInt - 1, -api.MaxInt, -3, -2, -1,
		0, 1, 2, 3, 7, api.MaxInt, api.MaxInt + 1, math.MaxInt/2 - 1, math.MaxInt / 2, math.MaxInt/2 + 1, math.MaxInt - 2, math.MaxInt - 1, math.MaxInt}
}

func number(n int) *big.Int { return big.NewInt(int64(n)) }

// sum returns the sum as ints without limits have it.
func sum(a, b int) *big.Int { return new(big.Int).Add(number(a), number(b)) }
