package tests

import (
	"math"
	"math/big"
	"slices"
	"testing"

	"loop.example/g00972/impl"
)

// mostShares is the largest number of weights.
const mostShares = 64

// many returns a list with the same number n times.
func many(number, n int) []int { return slices.Repeat([]int{number}, n) }

// validWeights holds the edge cases of a list of weights that are accepted.
func validWeights() [][]int {
	return [][]int{
		nil,
		{},
		{0},
		{0, 0, 0},
		{1},
		{1, 2},
		{2, 1},
		{1, 1, 1},
		{3, 5, 7, 11},
		{0, 3, 0, 0, 4, 0},
		{0, 0, 5},
		{5, 0, 0},
		{impl.MaxLen, impl.MaxLen + 1, 2 * impl.MaxLen},
		{impl.MaxWeight},
		{impl.MaxWeight - 1, impl.MaxWeight},
		{0, impl.MaxWeight, 1},
		{impl.MaxWeight, impl.MaxWeight, impl.MaxWeight},
		many(0, mostShares),
		many(1, mostShares-1),
		many(1, mostShares),
		many(impl.MaxWeight, mostShares),
	}
}

// invalidWeights holds lists that have too many elements or an element outside its range.
func invalidWeights() [][]int {
	return [][]int{
		{-1},
		{impl.MaxWeight + 1},
		{math.MinInt},
		{math.MaxInt},
		{-1, 2},
		{2, -1},
		{1, 2, -1, 3},
		{1, 2, impl.MaxWeight + 1},
		{impl.MaxWeight + 1, -1},
		{math.MaxInt, math.MaxInt},
		{math.MinInt, math.MaxInt},
		{0, 0, -1},
		many(0, mostShares+1),
		many(1, mostShares+1),
		many(1, 1000),
		append(many(1, mostShares-1), -1),
		append(many(1, mostShares-1), impl.MaxWeight+1),
		append(many(1, mostShares), -1),
	}
}

// bigShares follows the sentence of the document with big integers, so that it shares nothing with the program.
func bigShares(n int, weights []int) []*big.Int {
	length := bigClamp(bigOf(n), -impl.MaxLen, impl.MaxLen)
	sums := []*big.Int{bigOf(0)}
	for i, weight := range weights {
		sums = append(sums, new(big.Int).Add(sums[i], bigOf(weight)))
	}
	all := sums[len(weights)]
	place := func(i int) *big.Int { return bigFloor(new(big.Int).Mul(length, sums[i]), all) }
	var list []*big.Int
	for i := range weights {
		list = append(list, new(big.Int).Sub(place(i+1), place(i)))
	}
	return list
}

func sameAsBig(got []int, want []*big.Int) bool {
	return slices.EqualFunc(got, want, func(a int, b *big.Int) bool { return bigOf(a).Cmp(b) == 0 })
}

// wholeOf is the number that shares have to add up to.
func wholeOf(n int, weights []int) int {
	if slices.ContainsFunc(weights, func(weight int) bool { return weight > 0 }) {
		return max(-impl.MaxLen, min(n, impl.MaxLen))
	}
	return 0
}

func sumOf(list []int) int {
	sum := 0
	for _, n := range list {
		sum += n
	}
	return sum
}

func TestSharesLimit(t *testing.T) {
	// The constant has no type, so it also fits in a variable of another one.
	var limit int32 = impl.MaxWeight
	if limit != 1073741824 {
		t.Error("MaxWeight", limit)
	}
}

func TestWeightsOk(t *testing.T) {
	for _, weights := range validWeights() {
		if !impl.WeightsOk(weights) {
			t.Errorf("WeightsOk(%d) of %d elements is false", weights, len(weights))
		}
	}
	for _, weights := range invalidWeights() {
		if impl.WeightsOk(weights) {
			t.Errorf("WeightsOk(%d) of %d elements is true", weights, len(weights))
		}
	}
}

func TestShares(t *testing.T) {
	for _, c := range []struct {
		n       int
		weights []int
		want    []int
	}{
		{7, nil, nil},
		{7, []int{}, nil},
		{7, []int{1}, []int{7}},
		{7, []int{1, 2}, []int{2, 5}},
		{7, []int{2, 1}, []int{4, 3}},
		{10, []int{1, 1, 1}, []int{3, 3, 4}},
		{11, []int{1, 1, 1}, []int{3, 4, 4}},
		{12, []int{1, 1, 1}, []int{4, 4, 4}},
		{2, []int{1, 1, 1}, []int{0, 1, 1}},
		{1, []int{1, 1, 1, 1}, []int{0, 0, 0, 1}},
		{0, []int{1, 2, 3}, []int{0, 0, 0}},
		{100, []int{50, 30, 20}, []int{50, 30, 20}},
		// Negative lengths are rounded down too.
		{-7, []int{1, 2}, []int{-3, -4}},
		{-10, []int{1, 1, 1}, []int{-4, -3, -3}},
		{-1, []int{1, 1, 1, 1}, []int{-1, 0, 0, 0}},
		{-2, []int{1, 1, 1}, []int{-1, -1, 0}},
		{-9, []int{1, 2}, []int{-3, -6}},
		// Weights of 0.
		{7, []int{0}, []int{0}},
		{7, []int{0, 0, 0}, []int{0, 0, 0}},
		{-7, []int{0, 0}, []int{0, 0}},
		{math.MaxInt, []int{0, 0}, []int{0, 0}},
		{math.MinInt, []int{0, 0}, []int{0, 0}},
		{7, []int{0, 1, 0, 2, 0}, []int{0, 2, 0, 5, 0}},
		{-7, []int{0, 1, 0, 2, 0}, []int{0, -3, 0, -4, 0}},
		{7, []int{0, 0, 5}, []int{0, 0, 7}},
		{7, []int{5, 0, 0}, []int{7, 0, 0}},
		// The length is clamped on both sides.
		{impl.MaxLen - 1, []int{1}, []int{1048575}},
		{impl.MaxLen, []int{1}, []int{1048576}},
		{impl.MaxLen + 1, []int{1}, []int{1048576}},
		{math.MaxInt, []int{1}, []int{1048576}},
		{1 - impl.MaxLen, []int{1}, []int{-1048575}},
		{-impl.MaxLen, []int{1}, []int{-1048576}},
		{-impl.MaxLen - 1, []int{1}, []int{-1048576}},
		{math.MinInt, []int{1}, []int{-1048576}},
		{math.MaxInt, []int{1, 1, 1}, []int{349525, 349525, 349526}},
		{math.MinInt, []int{1, 1, 1}, []int{-349526, -349525, -349525}},
		// Weights are not clamped like lengths, and their sum may exceed every limit.
		{4, []int{impl.MaxLen, 3 * impl.MaxLen}, []int{1, 3}},
		{10, []int{impl.MaxWeight, impl.MaxWeight, impl.MaxWeight}, []int{3, 3, 4}},
		{5, []int{impl.MaxWeight, impl.MaxWeight, impl.MaxWeight, impl.MaxWeight}, []int{1, 1, 1, 2}},
		{5, []int{1, impl.MaxWeight}, []int{0, 5}},
		{-5, []int{1, impl.MaxWeight}, []int{-1, -4}},
		{math.MaxInt, many(impl.MaxWeight, mostShares), many(16384, mostShares)},
		{math.MinInt, many(impl.MaxWeight, mostShares), many(-16384, mostShares)},
		{7, many(0, mostShares), many(0, mostShares)},
	} {
		if got := impl.Shares(c.n, c.weights); !slices.Equal(got, c.want) {
			t.Errorf("Shares(%d, %d) = %d, not %d", c.n, c.weights, got, c.want)
		}
	}
}

func TestSharesOfInvalidWeights(t *testing.T) {
	for _, weights := range invalidWeights() {
		for _, n := range edgeNumbers() {
			if got := impl.Shares(n, weights); got != nil {
				t.Errorf("Shares(%d, %d) = %d", n, weights, got)
			}
		}
	}
}

func TestSharesAddUpToTheWhole(t *testing.T) {
	for _, weights := range validWeights() {
		for _, n := range append(edgeNumbers(), 1, 2, 3, 10, 99, -10, -99) {
			got := impl.Shares(n, weights)
			if len(got) != len(weights) || sumOf(got) != wholeOf(n, weights) {
				t.Errorf("Shares(%d, %d) = %d, whose sum is %d", n, weights, got, sumOf(got))
			}
			if want := bigShares(n, weights); !sameAsBig(got, want) {
				t.Errorf("Shares(%d, %d) = %d, not %d", n, weights, got, want)
			}
		}
	}
}

func TestSharesOfSmallWeightsAddUpToTheWhole(t *testing.T) {
	for n := -13; n <= 13; n++ {
		for a := range 5 {
			for b := range 5 {
				for c := range 5 {
					weights := []int{a, b, c}
					got := impl.Shares(n, weights)
					if sumOf(got) != wholeOf(n, weights) || !sameAsBig(got, bigShares(n, weights)) {
						t.Errorf("Shares(%d, %d) = %d", n, weights, got)
					}
				}
			}
		}
	}
}

func TestSharesHaveTheSignOfTheWhole(t *testing.T) {
	for _, weights := range validWeights() {
		for _, n := range edgeNumbers() {
			for i, share := range impl.Shares(n, weights) {
				if share < 0 && n >= 0 || share > 0 && n <= 0 || share != 0 && weights[i] == 0 {
					t.Errorf("share %d of Shares(%d, %d) is %d", i, n, weights, share)
				}
			}
		}
	}
}

func TestShareAt(t *testing.T) {
	for _, c := range []struct {
		n       int
		weights []int
		i, want int
	}{
		{7, []int{1, 2}, 0, 2},
		{7, []int{1, 2}, 1, 5},
		{-7, []int{1, 2}, 0, -3},
		{-7, []int{1, 2}, 1, -4},
		{7, []int{0, 0}, 1, 0},
		{7, []int{0, 1}, 0, 0},
		{7, []int{0, 1}, 1, 7},
		// There is no such element.
		{7, []int{1, 2}, -1, 0},
		{7, []int{1, 2}, 2, 0},
		{7, []int{1, 2}, 3, 0},
		{7, []int{1, 2}, math.MinInt, 0},
		{7, []int{1, 2}, math.MaxInt, 0},
		{7, nil, 0, 0},
		{7, nil, -1, 0},
		{7, []int{}, 0, 0},
		// The weights are not valid.
		{7, []int{1, -1}, 0, 0},
		{7, []int{impl.MaxWeight + 1}, 0, 0},
		{7, []int{1, math.MaxInt}, 0, 0},
		{7, []int{1, math.MinInt}, 0, 0},
		{65, many(1, mostShares+1), 0, 0},
		{65, many(1, mostShares+1), mostShares, 0},
		// The ends of the list and of the length.
		{64, many(1, mostShares), mostShares - 1, 1},
		{64, many(1, mostShares), mostShares, 0},
		{math.MaxInt, []int{1}, 0, impl.MaxLen},
		{math.MinInt, []int{1}, 0, -impl.MaxLen},
		{impl.MaxLen + 1, []int{impl.MaxWeight}, 0, impl.MaxLen},
		{-impl.MaxLen - 1, []int{impl.MaxWeight}, 0, -impl.MaxLen},
	} {
		if got := impl.ShareAt(c.n, c.weights, c.i); got != c.want {
			t.Errorf("ShareAt(%d, %d, %d) = %d, not %d", c.n, c.weights, c.i, got, c.want)
		}
	}
}

func TestShareAtIsTheElementOfShares(t *testing.T) {
	for _, weights := range append(validWeights(), invalidWeights()...) {
		for _, n := range edgeNumbers() {
			shares := impl.Shares(n, weights)
			for i := -2; i < len(weights)+2; i++ {
				want := 0
				if i >= 0 && i < len(shares) {
					want = shares[i]
				}
				if got := impl.ShareAt(n, weights, i); got != want {
					t.Errorf("ShareAt(%d, %d, %d) = %d, not %d", n, weights, i, got, want)
				}
			}
		}
	}
}

func TestScaled(t *testing.T) {
	for _, c := range []struct {
		sizes, factors, want []int
	}{
		{nil, nil, nil},
		{[]int{}, []int{}, nil},
		{[]int{3, 4}, []int{2, 0}, []int{6, 0}},
		{[]int{0, 5}, []int{9, 1}, []int{0, 5}},
		// The shorter slice decides.
		{nil, []int{1, 2}, nil},
		{[]int{1, 2}, nil, nil},
		{[]int{3}, []int{2, 7, 9}, []int{6}},
		{[]int{3, 4, 5}, []int{2}, []int{6}},
		{[]int{3, 4, 5}, []int{2, 3}, []int{6, 12}},
		{[]int{3, 4}, []int{2, 3, 4}, []int{6, 12}},
		// Sizes outside their range.
		{[]int{-1, -impl.MaxLen, math.MinInt}, []int{5, 5, 5}, []int{0, 0, 0}},
		{[]int{impl.MaxLen - 1, impl.MaxLen, impl.MaxLen + 1, math.MaxInt}, []int{1, 1, 1, 1}, []int{1048575, 1048576, 1048576, 1048576}},
		{[]int{1, impl.MaxLen + 1}, []int{3, 3}, []int{3, 3145728}},
		// Factors outside their range.
		{[]int{7, 7, 7}, []int{-1, -1000, math.MinInt}, []int{0, 0, 0}},
		{[]int{7, 7, 7, 7}, []int{999, 1000, 1001, math.MaxInt}, []int{6993, 7000, 7000, 7000}},
		// Both at their limits: the product itself is not clamped.
		{[]int{impl.MaxLen, math.MaxInt}, []int{1000, math.MaxInt}, []int{1048576000, 1048576000}},
		{[]int{math.MinInt, math.MinInt, math.MaxInt, -3}, []int{math.MinInt, math.MaxInt, math.MinInt, -3}, []int{0, 0, 0, 0}},
		// There is no limit to the number of sizes.
		{many(2, 500), many(3, 400), many(6, 400)},
	} {
		if got := impl.Scaled(c.sizes, c.factors); !slices.Equal(got, c.want) {
			t.Errorf("Scaled(%d, %d) = %d, not %d", c.sizes, c.factors, got, c.want)
		}
	}
}

func TestScaledGivesValidWeights(t *testing.T) {
	numbers := append(edgeNumbers(), 999, 1000, 1001)
	for _, size := range numbers {
		for _, factor := range numbers {
			got := impl.Scaled([]int{size}, []int{factor})
			want := new(big.Int).Mul(bigClamp(bigOf(size), 0, impl.MaxLen), bigClamp(bigOf(factor), 0, 1000))
			if !sameAsBig(got, []*big.Int{want}) || !impl.WeightsOk(got) {
				t.Errorf("Scaled of %d and %d = %d, not %s", size, factor, got, want)
			}
		}
	}
}

func TestEvenly(t *testing.T) {
	for _, c := range []struct {
		n, many int
		want    []int
	}{
		{10, 3, []int{3, 3, 4}},
		{10, 1, []int{10}},
		{10, 4, []int{2, 3, 2, 3}},
		{0, 3, []int{0, 0, 0}},
		{2, 3, []int{0, 1, 1}},
		{-10, 3, []int{-4, -3, -3}},
		{-1, 2, []int{-1, 0}},
		{10, 0, nil},
		{10, -1, nil},
		{10, math.MinInt, nil},
		{10, mostShares + 1, nil},
		{10, math.MaxInt, nil},
		{mostShares, mostShares, many(1, mostShares)},
		{-mostShares, mostShares, many(-1, mostShares)},
		{mostShares - 1, mostShares - 1, many(1, mostShares-1)},
		{impl.MaxLen, mostShares, many(16384, mostShares)},
		{impl.MaxLen + 1, 2, []int{524288, 524288}},
		{impl.MaxLen - 1, 2, []int{524287, 524288}},
		{-impl.MaxLen - 1, 2, []int{-524288, -524288}},
		{1 - impl.MaxLen, 2, []int{-524288, -524287}},
		{math.MaxInt, 1, []int{impl.MaxLen}},
		{math.MinInt, 1, []int{-impl.MaxLen}},
		{math.MinInt, math.MinInt, nil},
		{math.MaxInt, math.MaxInt, nil},
	} {
		if got := impl.Evenly(c.n, c.many); !slices.Equal(got, c.want) {
			t.Errorf("Evenly(%d, %d) = %d, not %d", c.n, c.many, got, c.want)
		}
	}
}

func TestEvenlyAddsUpToTheWhole(t *testing.T) {
	for _, n := range edgeNumbers() {
		for parts := range mostShares + 1 {
			got := impl.Evenly(n, parts)
			weights := many(1, parts)
			if len(got) != parts || sumOf(got) != wholeOf(n, weights) || !sameAsBig(got, bigShares(n, weights)) {
				t.Errorf("Evenly(%d, %d) = %d", n, parts, got)
			}
			if parts > 0 && slices.Max(got)-slices.Min(got) > 1 {
				t.Errorf("Evenly(%d, %d) = %d is not even", n, parts, got)
			}
		}
		for _, parts := range []int{-1, mostShares + 1, math.MinInt, math.MaxInt} {
			if got := impl.Evenly(n, parts); got != nil {
				t.Errorf("Evenly(%d, %d) = %d", n, parts, got)
			}
		}
	}
}

func TestWanting(t *testing.T) {
	for _, c := range []struct {
		n    int
		list []int
		want int
	}{
		{10, nil, 10},
		{10, []int{}, 10},
		{10, []int{3, 4}, 3},
		{10, []int{10}, 0},
		{10, []int{8, 9}, -7},
		{-10, []int{3}, -13},
		{10, []int{-3, -4}, 17},
		{0, []int{5}, -5},
		// The elements are clamped, and n and the result are not.
		{0, []int{impl.MaxLen + 1}, -impl.MaxLen},
		{0, []int{-impl.MaxLen - 1}, impl.MaxLen},
		{0, []int{math.MaxInt}, -impl.MaxLen},
		{0, []int{math.MinInt}, impl.MaxLen},
		{0, []int{impl.MaxLen, impl.MaxLen}, -2 * impl.MaxLen},
		{impl.MaxLen + 1, []int{1}, impl.MaxLen},
		{impl.MaxLen + 9, nil, impl.MaxLen + 9},
		{-impl.MaxLen - 9, nil, -impl.MaxLen - 9},
		{math.MaxInt, nil, math.MaxInt},
		{math.MinInt, nil, math.MinInt},
		{math.MaxInt, []int{5}, math.MaxInt - 5},
		{math.MinInt, []int{-5}, math.MinInt + 5},
		{math.MaxInt, []int{math.MaxInt}, math.MaxInt - impl.MaxLen},
		{math.MinInt, []int{math.MinInt}, math.MinInt + impl.MaxLen},
		// An int has 64 bits, so a difference beyond its ends wraps around.
		{math.MaxInt, []int{-1}, math.MinInt},
		{math.MinInt, []int{1}, math.MaxInt},
	} {
		if got := impl.Wanting(c.n, c.list); got != c.want {
			t.Errorf("Wanting(%d, %d) = %d, not %d", c.n, c.list, got, c.want)
		}
	}
}

func TestNothingIsWantingAfterShares(t *testing.T) {
	for _, weights := range validWeights() {
		for _, n := range edgeNumbers() {
			whole := wholeOf(n, weights)
			if got := impl.Wanting(whole, impl.Shares(n, weights)); got != 0 {
				t.Errorf("%d is wanting after Shares(%d, %d)", got, n, weights)
			}
		}
	}
}

// TestSharesLeavesArgumentsUnchanged gives every function the front of a longer slice, so that a write behind it is seen too.
func TestSharesLeavesArgumentsUnchanged(t *testing.T) {
	for _, first := range [][]int{
		{3, 0, 5, 91, 92},
		{math.MinInt, 2, math.MaxInt, 91, 92},
		{-1, impl.MaxWeight + 1, 1001, 91, 92},
	} {
		second := []int{2000, -7, 4, 93, 94}
		a, b := slices.Clone(first), slices.Clone(second)
		results := [][]int{
			impl.Shares(7, a[:3]),
			impl.Scaled(a[:3], b[:3]),
			impl.Scaled(b[:3], a[:2]),
			impl.Scaled(a[:3], a[:3]),
		}
		impl.WeightsOk(a[:3])
		impl.ShareAt(7, a[:3], 1)
		impl.Wanting(7, a[:3])
		if !slices.Equal(a, first) || !slices.Equal(b, second) {
			t.Errorf("the arguments became %d and %d", a, b)
		}
		overwrite(results)
		if !slices.Equal(a, first) || !slices.Equal(b, second) {
			t.Errorf("a result shares memory with an argument: %d and %d", a, b)
		}
	}
}

// overwrite also reaches the spare capacity of each list.
func overwrite(lists [][]int) {
	for _, list := range lists {
		list = list[:cap(list)]
		for i := range list {
			list[i] = -77
		}
	}
}

func TestSharesOfEqualCallsShareNoMemory(t *testing.T) {
	weights := []int{1, 2}
	for name, call := range map[string]func() []int{
		"Shares":         func() []int { return impl.Shares(7, weights) },
		"Shares of none": func() []int { return impl.Shares(7, []int{0, 0}) },
		"Scaled":         func() []int { return impl.Scaled(weights, weights) },
		"Evenly":         func() []int { return impl.Evenly(7, 3) },
	} {
		first := call()
		before := slices.Clone(first)
		overwrite([][]int{first})
		if again := call(); !slices.Equal(again, before) {
			t.Errorf("%s: %d became %d", name, before, again)
		}
	}
}
