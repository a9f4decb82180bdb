package account

import (
	"math"
	"math/big"
	"math/rand/v2"
	"testing"
)

// P6.2: the examples of the chapter.
func TestLines(t *testing.T) {
	for _, c := range []struct {
		steps, epoch int
		want         bool
	}{{20, 10, true}, {0, 10, false}, {20, 0, false}} {
		if got := Due(c.steps, c.epoch); got != c.want {
			t.Errorf("Due(%d, %d) = %v", c.steps, c.epoch, got)
		}
	}
	for _, c := range []struct {
		fuel, steps, epoch, n int
		want                  bool
	}{{5, 7, 10, 2, true}, {5, 7, 10, 3, false}, {5, 7, 0, 5, true}, {5, 7, 0, 6, false}} {
		if got := Within(c.fuel, c.steps, c.epoch, c.n); got != c.want {
			t.Errorf("Within(%d, %d, %d, %d) = %v", c.fuel, c.steps, c.epoch, c.n, got)
		}
	}
}

// multiples returns which numbers up to a line have an epoch after them, found by adding.
func multiples(epoch, most int) map[int]bool {
	m := map[int]bool{}
	for line := epoch; epoch > 0 && line <= most; line += epoch {
		m[line] = true
	}
	return m
}

// P6.2: Due with all small numbers.
func TestDue(t *testing.T) {
	for epoch := -30; epoch <= 30; epoch++ {
		due := multiples(epoch, 100)
		for steps := -100; steps <= 100; steps++ {
			if got := Due(steps, epoch); got != due[steps] {
				t.Errorf("Due(%d, %d) = %v", steps, epoch, got)
			}
		}
	}
}

// P6.2: Due with the greatest and the least ints.
func TestDueOfExtremes(t *testing.T) {
	for _, steps := range extremes() {
		for _, epoch := range extremes() {
			want := steps > 0 && epoch > 0 && new(big.Int).Rem(number(steps), number(epoch)).Sign() == 0
			if got := Due(steps, epoch); got != want {
				t.Errorf("Due(%d, %d) = %v", steps, epoch, got)
			}
		}
	}
	if !Due(math.MaxInt, math.MaxInt) || Due(math.MaxInt-1, math.MaxInt) || Due(math.MinInt, 1) || Due(math.MinInt, math.MinInt) {
		t.Error("Due of the greatest and the least ints")
	}
}

// P6.2: Within with all small numbers, where the lines are gone through one by one.
func TestWithin(t *testing.T) {
	for epoch := -2; epoch <= 7; epoch++ {
		due := multiples(epoch, 40)
		for steps := -9; steps <= 20; steps++ {
			for fuel := -2; fuel <= 12; fuel++ {
				for n := -3; n <= 14; n++ {
					want := n >= 0 && fuel >= n
					for line := steps + 1; line <= steps+n; line++ {
						want = want && !due[line]
					}
					if got := Within(fuel, steps, epoch, n); got != want {
						t.Errorf("Within(%d, %d, %d, %d) = %v", fuel, steps, epoch, n, got)
					}
				}
			}
		}
	}
}

// P6.2: lines up to an epoch, and one more, from each line between two epochs.
func TestWithinUpToAnEpoch(t *testing.T) {
	for _, epoch := range []int{1, 2, 10, 999, maxEpoch, math.MaxInt / 2} {
		for _, after := range []int{0, epoch / 3, epoch / 2, epoch - 1} {
			up := epoch - after - 1
			for _, steps := range []int{after, epoch + after} {
				if !Within(math.MaxInt, steps, epoch, up) || !Within(up, steps, epoch, up) || Within(math.MaxInt, steps, epoch, up+1) {
					t.Errorf("epoch %d, from line %d", epoch, steps)
				}
			}
		}
	}
}

// P6.2: fuel that is just enough, and one less.
func TestWithinOfFuel(t *testing.T) {
	for _, n := range []int{0, 1, 2, 9, 30000, math.MaxInt - 1} {
		for _, epoch := range []int{math.MinInt, -1, 0, math.MaxInt} {
			if !Within(n, 0, epoch, n) || Within(n-1, 0, epoch, n) || !Within(n+1, 0, epoch, n) || Within(n, 0, epoch, n+1) {
				t.Errorf("%d lines with epoch %d", n, epoch)
			}
		}
	}
}

// P6.2: lines up to the number 0 have no epoch, however many they are.
func TestWithinFromNegativeSteps(t *testing.T) {
	for _, before := range []int{1, 5, 1000000, math.MaxInt - 10} {
		for _, epoch := range []int{1, 2, 10} {
			most := before + epoch - 1
			if !Within(most, -before, epoch, before) || !Within(most, -before, epoch, most) || Within(math.MaxInt, -before, epoch, most+1) {
				t.Errorf("epoch %d, from line %d", epoch, -before)
			}
		}
	}
}

// epochs returns how many epochs there are after the lines up to a number.
func epochs(line *big.Int, epoch int) *big.Int {
	if epoch <= 0 || line.Sign() <= 0 {
		return number(0)
	}
	return new(big.Int).Quo(line, number(epoch))
}

// withinUnlimited is Within by counting epochs, with ints without limits.
func withinUnlimited(fuel, steps, epoch, n int) bool {
	return n >= 0 && fuel >= n && epochs(number(steps), epoch).Cmp(epochs(sum(steps, n), epoch)) == 0
}

// P6.2: Within with the greatest and the least ints in every place.
func TestWithinOfExtremes(t *testing.T) {
	for _, fuel := range extremes() {
		for _, steps := range extremes() {
			for _, epoch := range extremes() {
				for _, n := range extremes() {
					if got := Within(fuel, steps, epoch, n); got != withinUnlimited(fuel, steps, epoch, n) {
						t.Errorf("Within(%d, %d, %d, %d) = %v", fuel, steps, epoch, n, got)
					}
				}
			}
		}
	}
}

// somewhere returns an int, small ones and the neighbours of extremes among them.
func somewhere(r *rand.Rand) int {
	e := extremes()
	n := e[r.IntN(len(e))]
	switch r.IntN(4) {
	case 0:
		return n + r.IntN(9) - 4 // it may wrap around, to an int as good
	case 1:
		return int(r.Uint64()) >> r.IntN(64)
	}
	return n
}

// P6.2: Within with ints of all sizes; n is often just what leads to the next epoch.
func TestWithinOfManyInts(t *testing.T) {
	r := rand.New(rand.NewPCG(6, 2))
	for range 200000 {
		fuel, steps, epoch, n := somewhere(r), somewhere(r), somewhere(r), somewhere(r)
		if r.IntN(2) == 0 && epoch > 0 {
			next := new(big.Int).Add(epochs(number(steps), epoch), number(1))
			lines := next.Mul(next, number(epoch)).Sub(next, number(steps))
			n = int(lines.Int64()) - r.IntN(3) + 1
		}
		if r.IntN(2) == 0 {
			fuel = max(fuel, n)
		}
		if got := Within(fuel, steps, epoch, n); got != withinUnlimited(fuel, steps, epoch, n) {
			t.Errorf("Within(%d, %d, %d, %d) = %v", fuel, steps, epoch, n, got)
		}
	}
}

// P6.6: Within holds for n lines if it holds for one line, n times, with what is left and reached.
func TestWithinLineByLine(t *testing.T) {
	for epoch := -1; epoch <= 6; epoch++ {
		for steps := -5; steps <= 14; steps++ {
			for fuel := range 10 {
				want := true
				for n := range 12 {
					if got := Within(fuel, steps, epoch, n); got != want {
						t.Errorf("Within(%d, %d, %d, %d) = %v", fuel, steps, epoch, n, got)
					}
					want = want && Within(fuel-n, steps+n, epoch, 1)
				}
			}
		}
	}
}

// P6.6: a line that is within the fuel has an epoch after it if Due says so, and none with the epoch 0.
func TestWithinIsNotDue(t *testing.T) {
	for steps := -20; steps <= 40; steps++ {
		for epoch := -3; epoch <= 12; epoch++ {
			if Within(1, steps, epoch, 1) == Due(steps+1, epoch) {
				t.Errorf("line %d, epoch %d: both", steps+1, epoch)
			}
		}
		if Due(steps, 0) || !Within(40, steps, 0, 40) {
			t.Errorf("line %d: an epoch with the epoch 0", steps)
		}
	}
}
