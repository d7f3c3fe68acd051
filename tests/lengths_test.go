package tests

import (
	"math"
	"math/big"
	"slices"
	"testing"

	"loop.example/g00972/impl"
)

// mostCount is the largest factor that Part accepts as it is.
const mostCount = 2147483647

// edgeNumbers holds the numbers around 0 and around each limit of the chapter, and the ends of int.
func edgeNumbers() []int {
	list := []int{math.MinInt, math.MinInt + 1, math.MaxInt - 1, math.MaxInt}
	for _, limit := range []int{-mostCount, -impl.MaxLen, 0, impl.MaxLen, mostCount} {
		for d := -2; d <= 2; d++ {
			list = append(list, limit+d)
		}
	}
	return append(list, -1000, -7, 7, 1000, math.MinInt/2, math.MaxInt/2)
}

// bigClamp is written with big integers, so that it shares nothing with the program.
func bigClamp(n *big.Int, least, most int) *big.Int {
	if low := big.NewInt(int64(least)); n.Cmp(low) < 0 {
		return low
	}
	if high := big.NewInt(int64(most)); n.Cmp(high) > 0 {
		return high
	}
	return n
}

func bigOf(n int) *big.Int { return big.NewInt(int64(n)) }

// bigFloor is 0 for a divisor of less than 1. Div rounds down for every other divisor.
func bigFloor(a, b *big.Int) *big.Int {
	if b.Sign() < 1 {
		return bigOf(0)
	}
	return new(big.Int).Div(a, b)
}

func TestLengthsLimit(t *testing.T) {
	// The constant has no type, so it also fits in a variable of another one.
	var limit int32 = impl.MaxLen
	if limit != 1048576 {
		t.Error("MaxLen", limit)
	}
}

func TestClamped(t *testing.T) {
	for _, c := range []struct {
		n, want int
	}{
		{0, 0},
		{1, 1},
		{-1, 0},
		{-5, 0},
		{500, 500},
		{impl.MaxLen - 1, 1048575},
		{impl.MaxLen, 1048576},
		{impl.MaxLen + 1, 1048576},
		{-impl.MaxLen, 0},
		{mostCount, 1048576},
		{math.MaxInt, 1048576},
		{math.MinInt, 0},
	} {
		if got := impl.Clamped(c.n); got != c.want {
			t.Errorf("Clamped(%d) = %d", c.n, got)
		}
	}
}

func TestClampedIsWithinTheLimits(t *testing.T) {
	for _, n := range edgeNumbers() {
		got := impl.Clamped(n)
		if got < 0 || got > impl.MaxLen || impl.Clamped(got) != got {
			t.Errorf("Clamped(%d) = %d", n, got)
		}
		if n >= 0 && n <= impl.MaxLen && got != n {
			t.Errorf("Clamped(%d) = %d, but nothing was to be changed", n, got)
		}
	}
}

func TestAddLen(t *testing.T) {
	for _, c := range []struct {
		a, b, want int
	}{
		{0, 0, 0},
		{3, 4, 7},
		{5, -2, 3},
		{-2, 5, 3},
		{5, -5, 0},
		{5, -6, 0},
		{-3, -4, 0},
		{impl.MaxLen, 0, impl.MaxLen},
		{impl.MaxLen - 1, 1, impl.MaxLen},
		{impl.MaxLen, 1, impl.MaxLen},
		{impl.MaxLen, impl.MaxLen, impl.MaxLen},
		{impl.MaxLen, -1, impl.MaxLen - 1},
		{impl.MaxLen, -impl.MaxLen, 0},
		{impl.MaxLen, 1 - impl.MaxLen, 1},
		// Each number is clamped before they are added.
		{impl.MaxLen + 1, -1, impl.MaxLen - 1},
		{impl.MaxLen + 10, -10, impl.MaxLen - 10},
		{-10, impl.MaxLen + 10, impl.MaxLen - 10},
		{impl.MaxLen, -impl.MaxLen - 1, 0},
		{impl.MaxLen + 1, -impl.MaxLen - 1, 0},
		{2 * impl.MaxLen, -impl.MaxLen, 0},
		{-impl.MaxLen, 2 * impl.MaxLen, 0},
		{-impl.MaxLen - 10, impl.MaxLen, 0},
		{math.MaxInt, math.MaxInt, impl.MaxLen},
		{math.MaxInt, 0, impl.MaxLen},
		{math.MaxInt, 1, impl.MaxLen},
		{1, math.MaxInt, impl.MaxLen},
		{math.MaxInt, -5, impl.MaxLen - 5},
		{-5, math.MaxInt, impl.MaxLen - 5},
		{math.MinInt, math.MinInt, 0},
		{math.MinInt, -1, 0},
		{-1, math.MinInt, 0},
		{math.MinInt, impl.MaxLen, 0},
		{math.MinInt, math.MaxInt, 0},
		{math.MaxInt, math.MinInt, 0},
	} {
		if got := impl.AddLen(c.a, c.b); got != c.want {
			t.Errorf("AddLen(%d, %d) = %d", c.a, c.b, got)
		}
	}
}

func TestAddLenIsExactAndWithinTheLimits(t *testing.T) {
	for _, a := range edgeNumbers() {
		for _, b := range edgeNumbers() {
			x, y := bigClamp(bigOf(a), -impl.MaxLen, impl.MaxLen), bigClamp(bigOf(b), -impl.MaxLen, impl.MaxLen)
			want := bigClamp(new(big.Int).Add(x, y), 0, impl.MaxLen)
			got := impl.AddLen(a, b)
			if bigOf(got).Cmp(want) != 0 || got < 0 || got > impl.MaxLen {
				t.Errorf("AddLen(%d, %d) = %d, not %s", a, b, got, want)
			}
		}
	}
}

func TestWithin(t *testing.T) {
	for _, c := range []struct {
		n, least, most, want int
	}{
		{5, 0, 7, 5},
		{7, 0, 7, 7},
		{8, 0, 7, 7},
		{6, 0, 7, 6},
		{2, 2, 7, 2},
		{1, 2, 7, 2},
		{3, 2, 7, 3},
		{4, 4, 4, 4},
		{9, 4, 4, 4},
		{1, 4, 4, 4},
		// A maximum of 0 is a maximum.
		{5, 0, 0, 0},
		{5, -3, 0, 0},
		{-5, -3, 0, -3},
		{-2, -3, 0, -2},
		// The minimum takes precedence.
		{5, 9, 7, 9},
		{8, 9, 7, 9},
		{20, 9, 7, 9},
		{9, 9, 8, 9},
		{20, 1, 0, 1},
		// A negative maximum is none.
		{5, 0, -1, 5},
		{5, 9, -1, 9},
		{impl.MaxLen + 1, 0, -1, impl.MaxLen + 1},
		{5, 0, -100, 5},
		{-5, -9, -1, -5},
		{-5, -9, -7, -5},
		{-10, -9, -7, -9},
		{5, 0, math.MinInt, 5},
		{math.MaxInt, 0, math.MinInt, math.MaxInt},
		{math.MaxInt, 0, -1, math.MaxInt},
		{math.MinInt, math.MinInt, -1, math.MinInt},
		{math.MinInt, 0, math.MaxInt, 0},
		{math.MinInt, math.MinInt, 0, math.MinInt},
		{math.MaxInt, math.MinInt, 0, 0},
		{math.MaxInt, 0, math.MaxInt, math.MaxInt},
		{math.MaxInt, 0, math.MaxInt - 1, math.MaxInt - 1},
		{0, math.MaxInt, 0, math.MaxInt},
		{math.MinInt, math.MaxInt, math.MinInt, math.MaxInt},
	} {
		if got := impl.Within(c.n, c.least, c.most); got != c.want {
			t.Errorf("Within(%d, %d, %d) = %d", c.n, c.least, c.most, got)
		}
	}
}

func TestWithinIsWithinTheLimits(t *testing.T) {
	for _, n := range edgeNumbers() {
		for _, least := range edgeNumbers() {
			for _, most := range edgeNumbers() {
				got := impl.Within(n, least, most)
				limited := most >= 0
				switch {
				case got < least:
					t.Errorf("Within(%d, %d, %d) = %d is below the minimum", n, least, most, got)
				case limited && got > most && got != least:
					t.Errorf("Within(%d, %d, %d) = %d is above the maximum", n, least, most, got)
				case got != n && got != least && !(limited && got == most):
					t.Errorf("Within(%d, %d, %d) = %d is none of the three", n, least, most, got)
				case n >= least && (!limited || n <= most) && got != n:
					t.Errorf("Within(%d, %d, %d) = %d, but nothing was to be changed", n, least, most, got)
				}
			}
		}
	}
}

func TestFloorDiv(t *testing.T) {
	for _, c := range []struct {
		a, b, want int
	}{
		{0, 1, 0},
		{0, 7, 0},
		{6, 3, 2},
		{7, 3, 2},
		{8, 3, 2},
		{9, 3, 3},
		{1, 2, 0},
		{7, 8, 0},
		{5, 1, 5},
		// Negative numbers, with and without a remainder.
		{-1, 2, -1},
		{-2, 2, -1},
		{-3, 2, -2},
		{-6, 3, -2},
		{-7, 3, -3},
		{-8, 3, -3},
		{-9, 3, -3},
		{-1, 100, -1},
		{-5, 1, -5},
		{-5, 5, -1},
		{-5, 6, -1},
		// Divisors of less than 1.
		{5, 0, 0},
		{-5, 0, 0},
		{0, 0, 0},
		{5, -1, 0},
		{-6, -3, 0},
		{7, -3, 0},
		{math.MaxInt, 0, 0},
		{math.MinInt, 0, 0},
		{math.MinInt, -1, 0},
		{math.MaxInt, -1, 0},
		{math.MinInt, math.MinInt, 0},
		{1, math.MinInt, 0},
		// The ends of int.
		{math.MaxInt, 1, math.MaxInt},
		{math.MinInt, 1, math.MinInt},
		{math.MaxInt, 2, 4611686018427387903},
		{math.MinInt, 2, -4611686018427387904},
		{math.MinInt, 3, -3074457345618258603},
		{math.MinInt + 1, 2, -4611686018427387904},
		{math.MaxInt, math.MaxInt, 1},
		{math.MaxInt - 1, math.MaxInt, 0},
		{math.MinInt + 1, math.MaxInt, -1},
		{math.MinInt, math.MaxInt, -2},
		{-1, math.MaxInt, -1},
		{1, math.MaxInt, 0},
	} {
		if got := impl.FloorDiv(c.a, c.b); got != c.want {
			t.Errorf("FloorDiv(%d, %d) = %d", c.a, c.b, got)
		}
	}
}

func TestFloorDivRoundsDown(t *testing.T) {
	for a := -60; a <= 60; a++ {
		for b := 1; b <= 13; b++ {
			// The remainder of a division that rounds down is never negative.
			if rest := a - b*impl.FloorDiv(a, b); rest < 0 || rest >= b {
				t.Errorf("FloorDiv(%d, %d) = %d", a, b, impl.FloorDiv(a, b))
			}
		}
	}
	for _, a := range edgeNumbers() {
		for _, b := range edgeNumbers() {
			want := bigFloor(bigOf(a), bigOf(b))
			if got := impl.FloorDiv(a, b); bigOf(got).Cmp(want) != 0 {
				t.Errorf("FloorDiv(%d, %d) = %d, not %s", a, b, got, want)
			}
		}
	}
}

func TestPart(t *testing.T) {
	for _, c := range []struct {
		n, k, all, want int
	}{
		{100, 1, 3, 33},
		{100, 2, 3, 66},
		{100, 3, 3, 100},
		{100, 1, 4, 25},
		{100, 0, 3, 0},
		{0, 5, 3, 0},
		{10, 7, 2, 35},
		{-100, 1, 3, -34},
		{-100, 1, 4, -25},
		{-1, 1, 2, -1},
		{-1, 0, 2, 0},
		// Factors outside their range.
		{100, -1, 3, 0},
		{-100, -1, 3, 0},
		{100, math.MinInt, 3, 0},
		{100, 1, 0, 0},
		{100, 1, -1, 0},
		{-100, 1, -3, 0},
		{100, 1, math.MinInt, 0},
		{100, -1, -1, 0},
		{100, 0, 0, 0},
		{1, mostCount, 1, mostCount},
		{1, mostCount + 1, 1, mostCount},
		{1, math.MaxInt, 1, mostCount},
		{-1, mostCount + 1, 1, -mostCount},
		{7, mostCount, mostCount, 7},
		{7, mostCount + 1, mostCount + 1, 7},
		{7, math.MaxInt, math.MaxInt, 7},
		{2, mostCount, mostCount + 1, 2},
		{2, mostCount - 1, mostCount, 1},
		{1, 1, mostCount, 0},
		{-1, 1, mostCount, -1},
		{-1, 1, math.MaxInt, -1},
		// The length is clamped on both sides.
		{impl.MaxLen, 1, 1, impl.MaxLen},
		{impl.MaxLen + 1, 1, 1, impl.MaxLen},
		{-impl.MaxLen, 1, 1, -impl.MaxLen},
		{-impl.MaxLen - 1, 1, 1, -impl.MaxLen},
		{impl.MaxLen - 1, 1, 1, impl.MaxLen - 1},
		{math.MaxInt, 1, 2, impl.MaxLen / 2},
		{math.MinInt, 1, 2, -impl.MaxLen / 2},
		{math.MinInt, 1, 3, -349526},
		// The result itself is not clamped.
		{impl.MaxLen, mostCount, 1, impl.MaxLen * mostCount},
		{math.MaxInt, math.MaxInt, 1, impl.MaxLen * mostCount},
		{math.MinInt, math.MaxInt, 1, -impl.MaxLen * mostCount},
		{math.MinInt, math.MinInt, math.MinInt, 0},
		{math.MaxInt, math.MaxInt, math.MaxInt, impl.MaxLen},
	} {
		if got := impl.Part(c.n, c.k, c.all); got != c.want {
			t.Errorf("Part(%d, %d, %d) = %d", c.n, c.k, c.all, got)
		}
	}
}

func TestPartIsExact(t *testing.T) {
	for _, n := range edgeNumbers() {
		for _, k := range edgeNumbers() {
			for _, all := range edgeNumbers() {
				length := bigClamp(bigOf(n), -impl.MaxLen, impl.MaxLen)
				product := new(big.Int).Mul(length, bigClamp(bigOf(k), 0, mostCount))
				want := bigFloor(product, bigClamp(bigOf(all), 0, mostCount))
				if got := impl.Part(n, k, all); bigOf(got).Cmp(want) != 0 {
					t.Errorf("Part(%d, %d, %d) = %d, not %s", n, k, all, got, want)
				}
			}
		}
	}
}

func TestPartOfTheWholeIsWithinTheLimits(t *testing.T) {
	for _, n := range edgeNumbers() {
		for all := 1; all <= 9; all++ {
			for k := 0; k <= all; k++ {
				if got := impl.Part(n, k, all); got < -impl.MaxLen || got > impl.MaxLen {
					t.Errorf("Part(%d, %d, %d) = %d", n, k, all, got)
				}
			}
		}
	}
}

func TestTotalOf(t *testing.T) {
	for _, c := range []struct {
		list []int
		want int
	}{
		{nil, 0},
		{[]int{}, 0},
		{[]int{0}, 0},
		{[]int{5}, 5},
		{[]int{-5}, -5},
		{[]int{1, -2, 5}, 4},
		{[]int{1, 2, 3, 4}, 10},
		{[]int{-1, -2, -3}, -6},
		{[]int{impl.MaxLen}, impl.MaxLen},
		{[]int{impl.MaxLen + 1}, impl.MaxLen},
		{[]int{-impl.MaxLen}, -impl.MaxLen},
		{[]int{-impl.MaxLen - 1}, -impl.MaxLen},
		{[]int{impl.MaxLen - 1, 1 - impl.MaxLen}, 0},
		// The elements are clamped, and the sum is not.
		{[]int{impl.MaxLen, impl.MaxLen, 1}, 2*impl.MaxLen + 1},
		{[]int{-impl.MaxLen, -impl.MaxLen, -1}, -2*impl.MaxLen - 1},
		{[]int{impl.MaxLen + 7, -7}, impl.MaxLen - 7},
		{[]int{-7, impl.MaxLen + 7}, impl.MaxLen - 7},
		{[]int{-impl.MaxLen - 7, 7}, 7 - impl.MaxLen},
		{[]int{math.MaxInt}, impl.MaxLen},
		{[]int{math.MinInt}, -impl.MaxLen},
		{[]int{math.MaxInt, math.MaxInt, math.MaxInt}, 3 * impl.MaxLen},
		{[]int{math.MinInt, math.MinInt, math.MinInt}, -3 * impl.MaxLen},
		{[]int{math.MaxInt, math.MinInt, 3}, 3},
		{slices.Repeat([]int{math.MaxInt}, 5000), 5000 * impl.MaxLen},
	} {
		if got := impl.TotalOf(c.list); got != c.want {
			t.Errorf("TotalOf of %d elements from %d on = %d, not %d", len(c.list), c.list[:min(8, len(c.list))], got, c.want)
		}
	}
}

func TestTotalOfLeavesTheListUnchanged(t *testing.T) {
	whole := []int{math.MaxInt, -3, math.MinInt, 99, 98}
	before := slices.Clone(whole)
	if got := impl.TotalOf(whole[:3]); got != -3 {
		t.Errorf("the total is %d", got)
	}
	if !slices.Equal(whole, before) {
		t.Errorf("the list became %d", whole)
	}
}
