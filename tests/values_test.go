package tests

import (
	"math"
	"math/big"
	"strconv"
	"testing"

	"loop.example/g00972/impl"
)

const (
	// mostPercent is the largest number of a valid percentage.
	mostPercent = 1000
	// clampedPercent is the largest percentage that LengthOf takes as it is.
	clampedPercent = 1000000
)

func none(n int) impl.Value    { return impl.Value{Kind: impl.VaNone, N: n} }
func point(n int) impl.Value   { return impl.Value{Kind: impl.VaPoint, N: n} }
func percent(n int) impl.Value { return impl.Value{Kind: impl.VaPercent, N: n} }
func auto(n int) impl.Value    { return impl.Value{Kind: impl.VaAuto, N: n} }

// edgeKinds holds each kind, the numbers beside them and the ends of int.
func edgeKinds() []int {
	return []int{
		impl.VaNone, impl.VaPoint, impl.VaPercent, impl.VaAuto,
		impl.VaNone - 2, impl.VaNone - 1, impl.VaAuto + 1, impl.VaAuto + 2,
		math.MinInt, math.MinInt + 1, math.MaxInt - 1, math.MaxInt,
		// These have the lowest bits of a kind, which must not be enough.
		math.MinInt + impl.VaPoint, math.MinInt + impl.VaPercent, 1<<32 + impl.VaPoint, 1<<8 + impl.VaPercent,
	}
}

// valueNumbers adds the limits of a percentage to edgeNumbers.
func valueNumbers() []int {
	list := edgeNumbers()
	for _, limit := range []int{-clampedPercent, -mostPercent, -100, 100, mostPercent, clampedPercent} {
		for d := -2; d <= 2; d++ {
			list = append(list, limit+d)
		}
	}
	return append(list, -50, -33, 33, 50)
}

// edgeValues holds each kind with each number.
func edgeValues() []impl.Value {
	var list []impl.Value
	for _, kind := range edgeKinds() {
		for _, n := range valueNumbers() {
			list = append(list, impl.Value{Kind: kind, N: n})
		}
	}
	return list
}

// wantValid, wantKnown and wantLength follow the sentences of the document and share nothing with the program.
func wantValid(v impl.Value) bool {
	limits := map[int]int{0: 0, 1: 1048576, 2: 1000, 3: 0}
	limit, exists := limits[v.Kind]
	return exists && v.N >= -limit && v.N <= limit
}

func wantKnown(v impl.Value, base int) bool {
	return v.Kind == 1 || v.Kind == 2 && base >= 0
}

func wantLength(v impl.Value, base int) *big.Int {
	switch {
	case !wantKnown(v, base):
		return bigOf(-1)
	case v.Kind == 1:
		return bigOf(v.N)
	}
	size := bigClamp(bigOf(base), 0, impl.MaxLen)
	return bigFloor(new(big.Int).Mul(size, bigClamp(bigOf(v.N), -clampedPercent, clampedPercent)), bigOf(100))
}

func TestValuesConstants(t *testing.T) {
	// The constants have no type, so they also fit in variables of another one.
	got := [5]int8{impl.VaNone, impl.VaPoint, impl.VaPercent, impl.VaAuto, impl.Unknown}
	if got != [5]int8{0, 1, 2, 3, -1} {
		t.Error("constants", got)
	}
	if (impl.Value{}) != none(0) {
		t.Error("the zero Value is not a VaNone")
	}
}

func TestValueOk(t *testing.T) {
	for _, c := range []struct {
		v    impl.Value
		want bool
	}{
		{impl.Value{}, true},
		{none(0), true},
		{none(1), false},
		{none(-1), false},
		{none(math.MaxInt), false},
		{none(math.MinInt), false},
		{auto(0), true},
		{auto(1), false},
		{auto(-1), false},
		{auto(math.MaxInt), false},
		{auto(math.MinInt), false},
		{point(0), true},
		{point(7), true},
		{point(-7), true},
		{point(impl.Unknown), true},
		{point(mostPercent + 1), true},
		{point(impl.MaxLen - 1), true},
		{point(impl.MaxLen), true},
		{point(impl.MaxLen + 1), false},
		{point(1 - impl.MaxLen), true},
		{point(-impl.MaxLen), true},
		{point(-impl.MaxLen - 1), false},
		{point(math.MaxInt), false},
		{point(math.MinInt), false},
		{percent(0), true},
		{percent(50), true},
		{percent(-50), true},
		{percent(100), true},
		{percent(101), true},
		{percent(mostPercent - 1), true},
		{percent(mostPercent), true},
		{percent(mostPercent + 1), false},
		{percent(1 - mostPercent), true},
		{percent(-mostPercent), true},
		{percent(-mostPercent - 1), false},
		{percent(clampedPercent), false},
		{percent(math.MaxInt), false},
		{percent(math.MinInt), false},
		// There are no such kinds.
		{impl.Value{Kind: -1}, false},
		{impl.Value{Kind: 4}, false},
		{impl.Value{Kind: -1, N: 5}, false},
		{impl.Value{Kind: 4, N: 5}, false},
		{impl.Value{Kind: math.MinInt}, false},
		{impl.Value{Kind: math.MaxInt}, false},
		{impl.Value{Kind: math.MinInt, N: math.MinInt}, false},
		{impl.Value{Kind: math.MaxInt, N: math.MaxInt}, false},
	} {
		if got := impl.ValueOk(c.v); got != c.want {
			t.Errorf("ValueOk(%d) = %v", c.v, got)
		}
	}
	for _, v := range edgeValues() {
		if got := impl.ValueOk(v); got != wantValid(v) {
			t.Errorf("ValueOk(%d) = %v", v, got)
		}
	}
}

func TestKnown(t *testing.T) {
	for _, c := range []struct {
		v    impl.Value
		base int
		want bool
	}{
		// A point needs no base.
		{point(5), 10, true},
		{point(5), 0, true},
		{point(5), impl.Unknown, true},
		{point(5), math.MinInt, true},
		{point(0), impl.Unknown, true},
		{point(-5), impl.Unknown, true},
		{point(impl.Unknown), impl.Unknown, true},
		// A percentage of an unknown size is not known.
		{percent(50), 10, true},
		{percent(50), 1, true},
		{percent(50), 0, true},
		{percent(50), impl.Unknown, false},
		{percent(0), impl.Unknown, false},
		{percent(0), 0, true},
		{percent(50), -2, false},
		{percent(50), -impl.MaxLen, false},
		{percent(50), math.MinInt, false},
		{percent(50), impl.MaxLen, true},
		{percent(50), impl.MaxLen + 1, true},
		{percent(50), math.MaxInt, true},
		{percent(-50), 10, true},
		// The other kinds are never known.
		{none(0), 10, false},
		{none(5), 10, false},
		{none(0), impl.Unknown, false},
		{auto(0), 10, false},
		{auto(5), 10, false},
		{auto(0), impl.Unknown, false},
		{impl.Value{Kind: -1, N: 5}, 10, false},
		{impl.Value{Kind: 4, N: 5}, 10, false},
		{impl.Value{Kind: math.MinInt, N: 5}, math.MaxInt, false},
		{impl.Value{Kind: math.MaxInt, N: 5}, math.MaxInt, false},
		// The kind and the base decide, even if N is beyond its limits.
		{point(impl.MaxLen + 1), 10, true},
		{point(-impl.MaxLen - 1), 10, true},
		{point(math.MaxInt), impl.Unknown, true},
		{point(math.MinInt), impl.Unknown, true},
		{percent(mostPercent + 1), 10, true},
		{percent(-mostPercent - 1), 10, true},
		{percent(math.MaxInt), 0, true},
		{percent(math.MinInt), 0, true},
		{percent(math.MaxInt), impl.Unknown, false},
		{percent(math.MinInt), impl.Unknown, false},
	} {
		if got := impl.Known(c.v, c.base); got != c.want {
			t.Errorf("Known(%d, %d) = %v", c.v, c.base, got)
		}
	}
}

func TestLengthOf(t *testing.T) {
	for _, c := range []struct {
		v          impl.Value
		base, want int
	}{
		{point(5), 10, 5},
		{point(5), impl.Unknown, 5},
		{point(0), 10, 0},
		{point(-5), 10, -5},
		{point(impl.Unknown), 10, -1},
		// The number of a point is not clamped.
		{point(impl.MaxLen), 10, impl.MaxLen},
		{point(impl.MaxLen + 1), 10, impl.MaxLen + 1},
		{point(-impl.MaxLen - 1), 10, -impl.MaxLen - 1},
		{point(math.MaxInt), math.MinInt, math.MaxInt},
		{point(math.MinInt), math.MaxInt, math.MinInt},
		{percent(50), 10, 5},
		{percent(50), 11, 5},
		{percent(100), 11, 11},
		{percent(150), 11, 16},
		{percent(0), 11, 0},
		{percent(1), 99, 0},
		{percent(1), 100, 1},
		{percent(99), 1, 0},
		{percent(mostPercent), 11, 110},
		// A negative percentage is rounded down too.
		{percent(-50), 10, -5},
		{percent(-50), 11, -6},
		{percent(-33), 10, -4},
		{percent(-100), 11, -11},
		{percent(-1), 1, -1},
		{percent(-1), 100, -1},
		{percent(-1), 101, -2},
		{percent(-mostPercent), 11, -110},
		// The base is clamped above, and a base below 0 is unknown.
		{percent(50), 0, 0},
		{percent(-50), 0, 0},
		{percent(50), impl.Unknown, impl.Unknown},
		{percent(0), impl.Unknown, impl.Unknown},
		{percent(-50), impl.Unknown, impl.Unknown},
		{percent(50), -2, impl.Unknown},
		{percent(50), -1000, impl.Unknown},
		{percent(50), math.MinInt, impl.Unknown},
		{percent(100), impl.MaxLen - 1, impl.MaxLen - 1},
		{percent(100), impl.MaxLen, impl.MaxLen},
		{percent(100), impl.MaxLen + 1, impl.MaxLen},
		{percent(50), math.MaxInt, 524288},
		{percent(-50), math.MaxInt, -524288},
		// The percentage is clamped to a wider range than that of a valid one, and the result is not clamped.
		{percent(mostPercent + 1), 100, mostPercent + 1},
		{percent(-mostPercent - 1), 100, -mostPercent - 1},
		{percent(200), impl.MaxLen, 2 * impl.MaxLen},
		{percent(-200), impl.MaxLen, -2 * impl.MaxLen},
		{percent(clampedPercent - 1), 100, 999999},
		{percent(clampedPercent), 100, 1000000},
		{percent(clampedPercent + 1), 100, 1000000},
		{percent(1 - clampedPercent), 100, -999999},
		{percent(-clampedPercent), 100, -1000000},
		{percent(-clampedPercent - 1), 100, -1000000},
		{percent(math.MaxInt), 100, 1000000},
		{percent(math.MinInt), 100, -1000000},
		{percent(math.MaxInt), 0, 0},
		{percent(math.MinInt), 0, 0},
		{percent(math.MaxInt), math.MaxInt, 10485760000},
		{percent(math.MinInt), math.MaxInt, -10485760000},
		{percent(math.MaxInt), math.MinInt, impl.Unknown},
		{percent(math.MinInt), math.MinInt, impl.Unknown},
		// The other kinds have no length.
		{none(0), 10, impl.Unknown},
		{none(5), 10, impl.Unknown},
		{auto(0), 10, impl.Unknown},
		{auto(5), 10, impl.Unknown},
		{impl.Value{Kind: -1, N: 5}, 10, impl.Unknown},
		{impl.Value{Kind: 4, N: 5}, 10, impl.Unknown},
		{impl.Value{Kind: math.MinInt, N: math.MinInt}, math.MinInt, impl.Unknown},
		{impl.Value{Kind: math.MaxInt, N: math.MaxInt}, math.MaxInt, impl.Unknown},
	} {
		if got := impl.LengthOf(c.v, c.base); got != c.want {
			t.Errorf("LengthOf(%d, %d) = %d, not %d", c.v, c.base, got, c.want)
		}
	}
}

func TestSizeOf(t *testing.T) {
	for _, c := range []struct {
		v          impl.Value
		base, want int
	}{
		{point(5), 10, 5},
		{point(5), impl.Unknown, 5},
		{point(0), 10, 0},
		// A length below 0 is a size of 0, even if it is the number of Unknown.
		{point(-5), 10, 0},
		{point(impl.Unknown), 10, 0},
		{point(impl.Unknown), impl.Unknown, 0},
		{point(-impl.MaxLen), 10, 0},
		{point(math.MinInt), 10, 0},
		{percent(-50), 10, 0},
		{percent(-1), 1, 0},
		{percent(-1), 100, 0},
		{percent(math.MinInt), math.MaxInt, 0},
		// A length above MaxLen is a size of MaxLen.
		{point(impl.MaxLen - 1), 10, impl.MaxLen - 1},
		{point(impl.MaxLen), 10, impl.MaxLen},
		{point(impl.MaxLen + 1), 10, impl.MaxLen},
		{point(math.MaxInt), 10, impl.MaxLen},
		{percent(100), impl.MaxLen, impl.MaxLen},
		{percent(101), impl.MaxLen, impl.MaxLen},
		{percent(mostPercent), impl.MaxLen, impl.MaxLen},
		{percent(math.MaxInt), math.MaxInt, impl.MaxLen},
		{percent(99), impl.MaxLen, 1038090},
		{percent(50), 11, 5},
		{percent(50), 0, 0},
		{percent(50), math.MaxInt, 524288},
		// A value that is not known has no size.
		{percent(50), impl.Unknown, impl.Unknown},
		{percent(0), impl.Unknown, impl.Unknown},
		{percent(50), -2, impl.Unknown},
		{percent(50), math.MinInt, impl.Unknown},
		{percent(math.MaxInt), math.MinInt, impl.Unknown},
		{none(0), 10, impl.Unknown},
		{none(5), 10, impl.Unknown},
		{auto(0), 10, impl.Unknown},
		{auto(5), 10, impl.Unknown},
		{impl.Value{Kind: -1, N: 5}, 10, impl.Unknown},
		{impl.Value{Kind: 4, N: 5}, 10, impl.Unknown},
		{impl.Value{Kind: math.MinInt, N: math.MinInt}, math.MinInt, impl.Unknown},
		{impl.Value{Kind: math.MaxInt, N: math.MaxInt}, math.MaxInt, impl.Unknown},
	} {
		if got := impl.SizeOf(c.v, c.base); got != c.want {
			t.Errorf("SizeOf(%d, %d) = %d, not %d", c.v, c.base, got, c.want)
		}
	}
}

func TestKnownValueHasLength(t *testing.T) {
	for _, v := range edgeValues() {
		for _, base := range valueNumbers() {
			known := impl.Known(v, base)
			if known != wantKnown(v, base) {
				t.Errorf("Known(%d, %d) = %v", v, base, known)
			}
			length, want := impl.LengthOf(v, base), wantLength(v, base)
			if bigOf(length).Cmp(want) != 0 {
				t.Errorf("LengthOf(%d, %d) = %d, not %s", v, base, length, want)
			}
			size := impl.SizeOf(v, base)
			switch {
			case !known && (length != impl.Unknown || size != impl.Unknown):
				t.Errorf("%d of %d is not known and has the length %d and the size %d", v, base, length, size)
			case known && (size < 0 || size > impl.MaxLen):
				t.Errorf("%d of %d is known and has the size %d", v, base, size)
			case known && bigOf(size).Cmp(bigClamp(want, 0, impl.MaxLen)) != 0:
				t.Errorf("%d of %d has the length %s and the size %d", v, base, want, size)
			}
		}
	}
}

func TestPercentagesAreRoundedDown(t *testing.T) {
	for n := -210; n <= 210; n++ {
		for base := range 130 {
			length := impl.LengthOf(percent(n), base)
			// The remainder of a division that rounds down is never negative.
			if rest := base*n - 100*length; rest < 0 || rest > 99 {
				t.Errorf("%d%% of %d = %d", n, base, length)
			}
		}
	}
}

func TestOrElse(t *testing.T) {
	for _, c := range []struct {
		n, m, want int
	}{
		{impl.Unknown, 7, 7},
		{impl.Unknown, 0, 0},
		{impl.Unknown, -5, -5},
		{impl.Unknown, impl.Unknown, impl.Unknown},
		{impl.Unknown, math.MaxInt, math.MaxInt},
		{impl.Unknown, math.MinInt, math.MinInt},
		{0, 7, 0},
		{1, 7, 1},
		{5, impl.Unknown, 5},
		// Another negative number is not Unknown.
		{-2, 7, -2},
		{-1000, 7, -1000},
		{-impl.MaxLen, 7, -impl.MaxLen},
		{math.MinInt, 7, math.MinInt},
		{math.MinInt, math.MaxInt, math.MinInt},
		{math.MaxInt, 7, math.MaxInt},
		{math.MaxInt, math.MinInt, math.MaxInt},
		{impl.MaxLen + 1, 7, impl.MaxLen + 1},
	} {
		if got := impl.OrElse(c.n, c.m); got != c.want {
			t.Errorf("OrElse(%d, %d) = %d", c.n, c.m, got)
		}
	}
	for _, n := range valueNumbers() {
		for _, m := range valueNumbers() {
			want := n
			if n == -1 {
				want = m
			}
			if got := impl.OrElse(n, m); got != want {
				t.Errorf("OrElse(%d, %d) = %d", n, m, got)
			}
		}
	}
}

func TestValueText(t *testing.T) {
	for _, c := range []struct {
		v    impl.Value
		want string
	}{
		{impl.Value{}, "none"},
		{none(0), "none"},
		{point(0), "0"},
		{point(5), "5"},
		{point(-5), "-5"},
		{point(impl.Unknown), "-1"},
		{point(impl.MaxLen), "1048576"},
		{point(-impl.MaxLen), "-1048576"},
		{percent(0), "0%"},
		{percent(50), "50%"},
		{percent(-50), "-50%"},
		{percent(mostPercent), "1000%"},
		{percent(-mostPercent), "-1000%"},
		{auto(0), "auto"},
		// These are not valid.
		{none(1), "?"},
		{none(-1), "?"},
		{none(math.MaxInt), "?"},
		{none(math.MinInt), "?"},
		{auto(1), "?"},
		{auto(-1), "?"},
		{auto(math.MaxInt), "?"},
		{auto(math.MinInt), "?"},
		{point(impl.MaxLen + 1), "?"},
		{point(-impl.MaxLen - 1), "?"},
		{point(math.MaxInt), "?"},
		{point(math.MinInt), "?"},
		{percent(mostPercent + 1), "?"},
		{percent(-mostPercent - 1), "?"},
		{percent(math.MaxInt), "?"},
		{percent(math.MinInt), "?"},
		{impl.Value{Kind: -1}, "?"},
		{impl.Value{Kind: 4}, "?"},
		{impl.Value{Kind: math.MinInt}, "?"},
		{impl.Value{Kind: math.MaxInt}, "?"},
	} {
		if got := impl.ValueText(c.v); got != c.want {
			t.Errorf("ValueText(%d) = %q, not %q", c.v, got, c.want)
		}
	}
}

func TestValueTextTellsValidValuesApart(t *testing.T) {
	seen := map[string]impl.Value{}
	for _, v := range edgeValues() {
		got := impl.ValueText(v)
		if !wantValid(v) {
			if got != "?" {
				t.Errorf("ValueText(%d) = %q", v, got)
			}
			continue
		}
		number := strconv.Itoa(v.N)
		if want := [4]string{"none", number, number + "%", "auto"}[v.Kind]; got != want {
			t.Errorf("ValueText(%d) = %q, not %q", v, got, want)
		}
		if other, found := seen[got]; found && other != v {
			t.Errorf("%d and %d are both %q", other, v, got)
		}
		seen[got] = v
	}
}
