package tests

import (
	"fmt"
	"math"
	"math/rand"
	"slices"
	"testing"

	"loop.example/g00972/impl"
)

func TestFlexingLimit(t *testing.T) {
	// The constant has no type, so it also fits in a variable of another one.
	var limit int8 = impl.MaxItems
	if limit != 12 {
		t.Error("MaxItems", limit)
	}
}

func TestItemOk(t *testing.T) {
	for _, from := range []impl.Item{{}, fullItem(), growing(10, 0, -1, 1)} {
		for _, x := range autoItems(from) {
			if !impl.ItemOk(x) {
				t.Errorf("ItemOk(%+v) is false", x)
			}
		}
	}
	for _, c := range []struct {
		name                                string
		below, least, most, beyond, between int
	}{
		{"Base", -1, 0, 1048576, 1048577, 500},
		{"Least", -1, 0, 1048576, 1048577, 500},
		{"Most", -2, -1, 1048576, 1048577, 0},
		{"Grow", -1, 0, 1000, 1001, 1},
		{"Shrink", -1, 0, 1000, 1001, 1},
		{"Before", -1048577, -1048576, 1048576, 1048577, -5},
		{"Behind", -1048577, -1048576, 1048576, 1048577, -5},
	} {
		for _, from := range []impl.Item{{}, fullItem()} {
			for _, n := range []int{c.least, c.most, c.between} {
				if x := withItem(from, c.name, n); !impl.ItemOk(x) {
					t.Errorf("ItemOk(%+v) is false", x)
				}
			}
			for _, n := range []int{c.below, c.beyond, math.MinInt, math.MaxInt} {
				if x := withItem(from, c.name, n); impl.ItemOk(x) {
					t.Errorf("ItemOk(%+v) is true", x)
				}
			}
		}
	}
}

// TestItemOkOfTwoFields has numbers near the limits in each two fields, so that no field makes up for another.
func TestItemOkOfTwoFields(t *testing.T) {
	for _, a := range itemLimits() {
		for _, n := range numbersNear(a) {
			x := withItem(fullItem(), a.name, n)
			if got := impl.ItemOk(x); got != wantItem(x) {
				t.Errorf("ItemOk(%+v) = %v", x, got)
			}
			for _, b := range itemLimits() {
				for _, m := range []int{b.least - 1, b.least, b.most, b.most + 1} {
					y := withItem(x, b.name, m)
					if got := impl.ItemOk(y); got != wantItem(y) {
						t.Errorf("ItemOk(%+v) = %v", y, got)
					}
				}
			}
		}
	}
}

func TestItemsOk(t *testing.T) {
	for n := range mostItems + 5 {
		list := times(n, fullItem())
		if got := impl.ItemsOk(list); got != (n <= 12) {
			t.Errorf("ItemsOk of %d items = %v", n, got)
		}
		// One item at any place is enough.
		for i := range n {
			for _, l := range itemLimits() {
				for _, number := range []int{l.least - 1, l.most + 1} {
					if wrong := withItemAt(list, i, withItem(fullItem(), l.name, number)); impl.ItemsOk(wrong) {
						t.Errorf("ItemsOk(%+v) is true", wrong)
					}
				}
			}
		}
	}
	if !impl.ItemsOk(nil) || !impl.ItemsOk([]impl.Item{}) || impl.ItemsOk(times(1000, impl.Item{})) {
		t.Error("ItemsOk of none or of a thousand")
	}
}

func TestHypOf(t *testing.T) {
	for _, c := range []struct {
		base, least, most, want int
	}{
		{10, 0, -1, 10},
		{10, 0, 20, 10},
		{10, 0, 10, 10},
		{10, 0, 9, 9},
		{10, 0, 0, 0},
		{0, 0, 0, 0},
		{10, 10, -1, 10},
		{10, 11, -1, 11},
		{10, 11, 12, 11},
		{13, 11, 12, 12},
		// A Most that is less than Least.
		{10, 30, 20, 30},
		{25, 30, 20, 30},
		{50, 30, 20, 30},
		{50, 30, 0, 30},
		{50, 30, -1, 50},
		{impl.MaxLen, 0, impl.MaxLen, impl.MaxLen},
		{impl.MaxLen, 0, impl.MaxLen - 1, impl.MaxLen - 1},
		{0, impl.MaxLen, -1, impl.MaxLen},
		// Items that are not valid are not clamped.
		{impl.MaxLen + 1, 0, -1, impl.MaxLen + 1},
		{5, impl.MaxLen + 1, -1, impl.MaxLen + 1},
		{5, -7, -1, 5},
		{-5, 0, -1, 0},
		{-5, -7, -1, -5},
		{-9, -7, -1, -7},
		{10, 0, -2, 10},
		{10, 0, math.MinInt, 10},
		{math.MinInt, math.MinInt, -1, math.MinInt},
		{math.MaxInt, math.MinInt, 0, 0},
		{math.MaxInt, math.MinInt, math.MaxInt, math.MaxInt},
		{math.MaxInt, 5, math.MinInt, math.MaxInt},
		{math.MinInt, math.MaxInt, math.MinInt, math.MaxInt},
	} {
		// Neither the margins nor the factors matter.
		for _, from := range []impl.Item{{}, fullItem(), {Grow: math.MaxInt, Shrink: -1, Before: math.MinInt, Behind: math.MaxInt}} {
			from.Base, from.Least, from.Most = c.base, c.least, c.most
			for _, x := range autoItems(from) {
				if got := impl.HypOf(x); got != c.want || got != wantHyp(x) {
					t.Errorf("HypOf(%+v) = %d, not %d", x, got, c.want)
				}
			}
		}
	}
	for _, x := range endItems() {
		if got := impl.HypOf(x); got != wantHyp(x) {
			t.Errorf("HypOf(%+v) = %d, not %d", x, got, wantHyp(x))
		}
	}
}

func TestOuterOf(t *testing.T) {
	plain, wide, narrow := impl.Item{}, withMargins(impl.Item{}, 3, 4), withMargins(impl.Item{}, -5, -1)
	for _, c := range []struct {
		list  []impl.Item
		sizes []int
		gap   int
		want  int
	}{
		{nil, nil, 0, 0},
		// There is no gap where there is no item.
		{nil, nil, 7, 0},
		{nil, nil, -7, 0},
		{nil, nil, math.MinInt, 0},
		{[]impl.Item{plain}, []int{5}, 7, 5},
		{[]impl.Item{plain}, []int{5}, -7, 5},
		{[]impl.Item{plain}, []int{5}, math.MaxInt, 5},
		{times(2, plain), []int{5, 6}, 0, 11},
		{times(2, plain), []int{5, 6}, 7, 18},
		{times(2, plain), []int{5, 6}, -7, 4},
		{times(3, plain), []int{5, 6, 8}, 7, 33},
		{times(12, plain), many(1, 12), 10, 122},
		{[]impl.Item{wide}, []int{5}, 7, 12},
		{[]impl.Item{narrow}, []int{5}, 7, -1},
		{[]impl.Item{wide, narrow}, []int{5, 6}, 7, 19},
		{[]impl.Item{narrow, narrow}, []int{0, 0}, 0, -12},
		// The sizes are those given, and not those of the items.
		{times(2, fullItem()), []int{5, 6}, 0, 9},
		{times(2, withMargins(fullItem(), 0, 0)), []int{0, 0}, 0, 0},
		// There are fewer sizes than items, or more.
		{times(2, wide), nil, 7, 21},
		{times(2, wide), []int{5}, 7, 26},
		{times(3, plain), []int{5}, 7, 19},
		{nil, []int{5, 6}, 7, 11},
		{[]impl.Item{wide}, []int{5, 6, 8}, 7, 26},
		{times(2, plain), []int{5, 6, 8}, 7, 26},
		// Nothing is clamped, and more than MaxItems items are counted too.
		{times(2, plain), []int{2 * impl.MaxLen, -3 * impl.MaxLen}, 2 * impl.MaxLen, impl.MaxLen},
		{[]impl.Item{withMargins(plain, 2*impl.MaxLen, -3*impl.MaxLen)}, []int{0}, 0, -impl.MaxLen},
		{times(13, wide), many(1, 13), 2, 128},
		{[]impl.Item{plain}, []int{-5}, 0, -5},
		{[]impl.Item{plain}, []int{math.MinInt}, 9, math.MinInt},
		{[]impl.Item{plain}, []int{math.MaxInt}, 9, math.MaxInt},
		{times(2, plain), []int{math.MaxInt, math.MinInt}, 0, -1},
		{times(2, plain), []int{math.MaxInt, 1}, 0, math.MinInt},
		{times(3, plain), many(0, 3), math.MaxInt, -2},
		{times(3, plain), many(0, 3), math.MinInt, 0},
	} {
		if got := impl.OuterOf(c.list, c.sizes, c.gap); got != c.want {
			t.Errorf("OuterOf(%+v, %d, %d) = %d, not %d", c.list, c.sizes, c.gap, got, c.want)
		}
		for _, auto := range autoItems(wide) {
			list := append(slices.Clone(c.list), auto)
			if got, want := impl.OuterOf(list, c.sizes, c.gap), wantOuter(list, c.sizes, c.gap); got != want {
				t.Errorf("OuterOf(%+v, %d, %d) = %d, not %d", list, c.sizes, c.gap, got, want)
			}
		}
	}
}

func TestOuterOfAnySizes(t *testing.T) {
	lists := [][]impl.Item{nil, {fullItem()}, {fullItem(), withMargins(impl.Item{}, -9, 2)}, times(13, fullItem())}
	for _, x := range endItems() {
		lists = append(lists, []impl.Item{x}, []impl.Item{fullItem(), x, x})
	}
	sizes := [][]int{nil, {0}, {5, -6}, many(7, 12), many(math.MaxInt, 3), {math.MinInt}, {math.MaxInt, 8}}
	for _, list := range lists {
		for _, some := range sizes {
			for _, gap := range edgeNumbers() {
				if got, want := impl.OuterOf(list, some, gap), wantOuter(list, some, gap); got != want {
					t.Errorf("OuterOf(%+v, %d, %d) = %d, not %d", list, some, gap, got, want)
				}
			}
		}
	}
}

func TestGrows(t *testing.T) {
	for _, c := range []struct {
		line
		want bool
	}{
		// A line that is filled exactly, one less, one more.
		{lineOf(0, 10, growing(10, 0, -1, 1)), false},
		{lineOf(0, 9, growing(10, 0, -1, 1)), false},
		{lineOf(0, 11, growing(10, 0, -1, 1)), true},
		{lineOf(5, 35, rigid(10, 0, -1), rigid(20, 0, -1)), false},
		{lineOf(5, 34, rigid(10, 0, -1), rigid(20, 0, -1)), false},
		{lineOf(5, 36, rigid(10, 0, -1), rigid(20, 0, -1)), true},
		{lineOf(5, 25, withMargins(rigid(10, 0, -1), -8, 3), rigid(15, 0, -1)), false},
		{lineOf(5, 26, withMargins(rigid(10, 0, -1), -8, 3), rigid(15, 0, -1)), true},
		// The hypothetical sizes count, and not the Bases.
		{lineOf(0, 20, rigid(10, 30, -1)), false},
		{lineOf(0, 30, rigid(10, 30, -1)), false},
		{lineOf(0, 31, rigid(10, 30, -1)), true},
		{lineOf(0, 20, rigid(50, 0, 15)), true},
		{lineOf(0, 15, rigid(50, 0, 15)), false},
		{lineOf(0, 29, rigid(50, 30, 15)), false},
		{lineOf(0, 31, rigid(50, 30, 15)), true},
		// No item.
		{lineOf(0, 0), false},
		{lineOf(7, 0), false},
		{lineOf(0, 1), true},
		{lineOf(7, 1), true},
		{lineOf(-7, -1), false},
		{lineOf(0, math.MinInt), false},
		{lineOf(0, math.MaxInt), true},
		// Arguments outside of the ranges are compared too.
		{lineOf(-7, 14, rigid(10, 0, -1), rigid(10, 0, -1)), true},
		{lineOf(-7, 13, rigid(10, 0, -1), rigid(10, 0, -1)), false},
		{lineOf(0, -1, rigid(0, 0, -1)), false},
		{lineOf(0, -1, withMargins(rigid(0, 0, -1), -1, 0)), false},
		{lineOf(0, -1, withMargins(rigid(0, 0, -1), -1, -1)), true},
		{lineOf(0, 2*impl.MaxLen, rigid(2*impl.MaxLen, 0, -1)), false},
		{lineOf(0, 2*impl.MaxLen+1, rigid(2*impl.MaxLen, 0, -1)), true},
		{lineOf(impl.MaxLen+1, impl.MaxLen+2, rigid(0, 0, -1), rigid(0, 0, -1)), true},
		{lineOf(1, 25, times(13, rigid(1, 0, -1))...), false},
		{lineOf(1, 26, times(13, rigid(1, 0, -1))...), true},
		{lineOf(0, math.MaxInt, rigid(math.MaxInt, 0, -1)), false},
		{lineOf(0, math.MaxInt, rigid(math.MaxInt-1, 0, -1)), true},
		{lineOf(0, math.MinInt, rigid(math.MinInt, math.MinInt, -1)), false},
	} {
		if got := impl.Grows(c.items, c.gap, c.inner); got != c.want {
			t.Errorf("Grows of %v = %v", c.line, got)
		}
	}
	// The factors do not matter.
	for _, x := range itemsFrom([]int{0, 9, 20}, []int{0, 11}, []int{-1, 0, 8}, []int{0, 1, 5000}, []int{-1, 0, 1}) {
		for inner := -1; inner <= 22; inner++ {
			got := impl.Grows([]impl.Item{x}, 7, inner)
			if got != (wantHyp(x) < inner) {
				t.Errorf("Grows of %v = %v", lineOf(7, inner, x), got)
			}
		}
	}
}

func TestFlexLine(t *testing.T) {
	checkFlexCases(t, []flexCase{
		{lineOf(0, 50, growing(10, 0, -1, 1)), []int{50}, 1},
		{lineOf(0, 4, shrinking(10, 0, -1, 1)), []int{4}, 1},
		{lineOf(0, 0, shrinking(10, 0, -1, 1)), []int{0}, 1},
		{lineOf(0, 100, times(3, growing(10, 0, -1, 1))...), []int{33, 33, 34}, 1},
		{lineOf(0, 7, growing(0, 0, -1, 1), growing(0, 0, -1, 2)), []int{2, 5}, 1},
		{lineOf(0, 7, growing(0, 0, -1, 2), growing(0, 0, -1, 1)), []int{4, 3}, 1},
		{lineOf(0, 47, growing(30, 0, -1, 1), growing(10, 0, -1, 2)), []int{32, 15}, 1},
		{lineOf(0, 7, times(2, shrinking(10, 0, -1, 1))...), []int{3, 4}, 1},
		// An item shrinks by its factor and by its Base.
		{lineOf(0, 20, shrinking(10, 0, -1, 1), shrinking(30, 0, -1, 1)), []int{5, 15}, 1},
		{lineOf(0, 20, shrinking(10, 0, -1, 3), shrinking(30, 0, -1, 1)), []int{0, 20}, 1},
		{lineOf(0, 31, shrinking(30, 0, -1, 1), shrinking(20, 0, -1, 3)), []int{23, 8}, 1},
		// Only one of the factors matters.
		{lineOf(0, 30, item(10, 0, -1, 5, 0), item(10, 0, -1, 0, 5)), []int{20, 10}, 1},
		{lineOf(0, 15, item(10, 0, -1, 5, 0), item(10, 0, -1, 0, 5)), []int{10, 5}, 1},
		{lineOf(0, 30, item(10, 0, -1, 1, 900), item(10, 0, -1, 1, 1)), []int{15, 15}, 1},
		{lineOf(0, 10, item(10, 0, -1, 900, 1), item(10, 0, -1, 1, 1)), []int{5, 5}, 1},
		// One item reaches a limit, and the others get what is left.
		{lineOf(5, 105, growing(10, 0, -1, 1), growing(10, 0, 20, 1)), []int{80, 20}, 2},
		{lineOf(0, 100, growing(10, 70, -1, 1), growing(10, 0, -1, 1)), []int{70, 30}, 2},
		{lineOf(0, 40, shrinking(30, 25, -1, 1), shrinking(30, 0, -1, 1)), []int{25, 15}, 2},
		{lineOf(0, 40, shrinking(30, 0, 12, 1), shrinking(50, 0, -1, 1)), []int{12, 28}, 2},
		// All of them reach one, so that the line is not filled, or overflows.
		{lineOf(0, 100, growing(10, 0, 20, 1), growing(10, 0, 30, 1)), []int{20, 30}, 1},
		{lineOf(0, 10, shrinking(30, 25, -1, 1), shrinking(30, 8, -1, 1)), []int{25, 8}, 1},
		// The second reaches its limit only after the first one has.
		{lineOf(0, 100, growing(0, 0, 10, 1), growing(0, 0, 40, 1), growing(0, 0, -1, 1)), []int{10, 40, 50}, 3},
		{lineOf(0, 30, shrinking(30, 25, -1, 1), shrinking(30, 7, -1, 1), shrinking(30, 0, -1, 1)), []int{25, 7, 0}, 3},
		{lineOf(0, 38, shrinking(30, 25, -1, 1), shrinking(30, 7, -1, 1), shrinking(30, 0, -1, 1)), []int{25, 7, 6}, 3},
		// What is frozen between others gets no share.
		{lineOf(0, 60, growing(0, 0, -1, 1), growing(0, 0, 9, 1), growing(0, 0, -1, 1)), []int{25, 9, 26}, 2},
	})
}

// TestViolationsThatCancelEachOther has V = 0, so that both kinds of violations are frozen in one pass.
func TestViolationsThatCancelEachOther(t *testing.T) {
	checkFlexCases(t, []flexCase{
		{lineOf(0, 100, growing(0, 60, -1, 1), growing(0, 0, 40, 1)), []int{60, 40}, 1},
		{lineOf(0, 100, growing(0, 0, 40, 1), growing(0, 60, -1, 1)), []int{40, 60}, 1},
		{lineOf(0, 200, growing(0, 60, -1, 1), growing(0, 0, 40, 1), growing(0, 0, -1, 2)), []int{60, 40, 100}, 2},
		{lineOf(0, 200, growing(0, 0, -1, 2), growing(0, 0, 40, 1), growing(0, 60, 60, 1)), []int{100, 40, 60}, 2},
		{lineOf(0, 200, shrinking(100, 60, -1, 1), shrinking(100, 0, 40, 1), shrinking(200, 0, -1, 1)), []int{60, 40, 100}, 2},
		{lineOf(0, 350, growing(0, 100, -1, 1), growing(0, 0, 99, 2), growing(0, 0, 51, 2), growing(0, 0, -1, 2)), []int{100, 99, 51, 100}, 2},
		// One that violates its minimum by what two exceed their maximum by.
		{lineOf(0, 150, growing(0, 60, -1, 1), growing(0, 0, 46, 1), growing(0, 0, 44, 1)), []int{60, 46, 44}, 1},
		// The targets are no whole numbers: 2/3 less, and twice 1/3 more.
		{lineOf(0, 100, growing(0, 34, -1, 1), growing(0, 0, 33, 1), growing(0, 0, 33, 1)), []int{34, 33, 33}, 1},
		{lineOf(0, 101, growing(0, 34, -1, 1), growing(0, 34, -1, 1), growing(0, 0, 33, 1)), []int{34, 34, 33}, 1},
		{lineOf(0, 100, shrinking(50, 34, -1, 1), shrinking(50, 0, 33, 1), shrinking(50, 0, 33, 1)), []int{34, 33, 33}, 1},
		// A Most that is less than Least counts as Least.
		{lineOf(0, 100, growing(0, 60, 5, 1), growing(0, 40, 5, 1)), []int{60, 40}, 0},
		{lineOf(0, 120, growing(0, 70, 5, 1), growing(0, 40, 5, 1), growing(0, 0, 10, 1)), []int{70, 40, 10}, 2},
		{lineOf(0, 160, growing(0, 60, 5, 1), growing(0, 20, 5, 1), growing(0, 0, -1, 2)), []int{60, 20, 80}, 2},
	})
}

// TestViolationsOfBothLimits has V positive or negative, so that only one kind of violations is frozen.
func TestViolationsOfBothLimits(t *testing.T) {
	checkFlexCases(t, []flexCase{
		// V is positive: the second item exceeds its maximum only until the first one is frozen, or still does then.
		{lineOf(0, 200, growing(0, 120, -1, 1), growing(0, 0, 40, 1), growing(0, 0, -1, 2)), []int{120, 26, 54}, 2},
		{lineOf(0, 200, growing(0, 70, -1, 1), growing(0, 0, 40, 1), growing(0, 0, -1, 2)), []int{70, 40, 90}, 3},
		{lineOf(0, 200, shrinking(100, 100, -1, 1), shrinking(100, 0, 40, 1), shrinking(200, 0, -1, 1)), []int{100, 33, 67}, 2},
		{lineOf(0, 200, growing(0, 61, -1, 1), growing(0, 0, 40, 1), growing(0, 0, -1, 2)), []int{61, 40, 99}, 3},
		// V is negative: the first item is less than its minimum only until the second one is frozen, or still is then.
		{lineOf(0, 200, growing(0, 60, -1, 1), growing(0, 0, 10, 1), growing(0, 0, -1, 2)), []int{63, 10, 127}, 2},
		{lineOf(0, 200, growing(0, 90, -1, 1), growing(0, 0, 0, 1), growing(0, 0, -1, 2)), []int{90, 0, 110}, 3},
		{lineOf(0, 200, shrinking(100, 60, -1, 1), shrinking(100, 0, 10, 1), shrinking(200, 0, -1, 1)), []int{63, 10, 127}, 2},
		{lineOf(0, 200, growing(0, 60, -1, 1), growing(0, 0, 39, 1), growing(0, 0, -1, 2)), []int{60, 39, 101}, 3},
		// The sum is less than 1: 2/3 less and 1/3 more, 1/3 less and 2/3 more.
		{lineOf(0, 100, growing(0, 34, -1, 1), growing(0, 0, 33, 1), growing(0, 0, -1, 1)), []int{34, 33, 33}, 2},
		{lineOf(0, 101, growing(0, 34, -1, 1), growing(0, 0, 33, 1), growing(0, 0, -1, 1)), []int{34, 33, 34}, 2},
	})
}

// TestTargetsNearALimit has targets that are no whole numbers, just below and just above a limit, and one that is a limit.
func TestTargetsNearALimit(t *testing.T) {
	up, down := growing(0, 0, -1, 1), shrinking(50, 0, -1, 1)
	checkFlexCases(t, []flexCase{
		// 33 and 1/3
		{lineOf(0, 100, growing(0, 33, -1, 1), up, up), []int{33, 33, 34}, 1},
		{lineOf(0, 100, growing(0, 34, -1, 1), up, up), []int{34, 33, 33}, 2},
		{lineOf(0, 100, up, up, growing(0, 0, 34, 1)), []int{33, 33, 34}, 1},
		{lineOf(0, 100, up, up, growing(0, 0, 33, 1)), []int{33, 34, 33}, 2},
		{lineOf(0, 100, growing(0, 0, 33, 1), up, up), []int{33, 33, 34}, 2},
		{lineOf(0, 100, shrinking(50, 33, -1, 1), down, down), []int{33, 33, 34}, 1},
		{lineOf(0, 100, shrinking(50, 34, -1, 1), down, down), []int{34, 33, 33}, 2},
		{lineOf(0, 100, shrinking(50, 0, 34, 1), down, down), []int{33, 33, 34}, 1},
		{lineOf(0, 100, shrinking(50, 0, 33, 1), down, down), []int{33, 33, 34}, 2},
		// 33 and 2/3
		{lineOf(0, 101, growing(0, 33, -1, 1), up, up), []int{33, 34, 34}, 1},
		{lineOf(0, 101, growing(0, 34, -1, 1), up, up), []int{34, 33, 34}, 2},
		{lineOf(0, 101, up, up, growing(0, 0, 34, 1)), []int{33, 34, 34}, 1},
		{lineOf(0, 101, up, up, growing(0, 0, 33, 1)), []int{34, 34, 33}, 2},
		{lineOf(0, 101, shrinking(50, 33, -1, 1), down, down), []int{33, 34, 34}, 1},
		{lineOf(0, 101, shrinking(50, 34, -1, 1), down, down), []int{34, 33, 34}, 2},
		// 33, which is within both limits.
		{lineOf(0, 99, growing(0, 33, -1, 1), growing(0, 0, 33, 1), up), []int{33, 33, 33}, 1},
		{lineOf(0, 99, growing(0, 33, 33, 1), growing(0, 0, 33, 1), up), []int{33, 33, 33}, 1},
		{lineOf(0, 99, shrinking(50, 33, -1, 1), shrinking(50, 0, 33, 1), down), []int{33, 33, 33}, 1},
		// A millionth, of a line with great weights.
		{lineOf(0, 1, growing(0, 0, 0, 1), growing(0, 0, -1, 1000), growing(0, 0, -1, 1000)), []int{0, 0, 1}, 2},
		{lineOf(0, 1048575, shrinking(1, 1, -1, 1), shrinking(1048575, 0, -1, 1000)), []int{1, 1048574}, 2},
		{lineOf(0, 1048575, shrinking(1, 0, -1, 1), shrinking(1048575, 0, -1, 1000)), []int{0, 1048575}, 1},
	})
}

func TestWeightsOfZero(t *testing.T) {
	checkFlexCases(t, []flexCase{
		// All of them.
		{lineOf(0, 100, times(2, rigid(10, 0, -1))...), []int{10, 10}, 0},
		{lineOf(0, 5, times(2, rigid(10, 0, -1))...), []int{10, 10}, 0},
		{lineOf(0, 100, rigid(10, 15, -1), rigid(10, 0, 5), rigid(10, 15, 5)), []int{15, 5, 15}, 0},
		{lineOf(0, 5, rigid(10, 15, -1), rigid(10, 0, 5), rigid(10, 15, 5)), []int{15, 5, 15}, 0},
		{lineOf(0, 100, shrinking(10, 15, -1, 9)), []int{15}, 0},
		{lineOf(0, 5, growing(10, 15, -1, 9)), []int{15}, 0},
		// Some of them, which stay at their hypothetical sizes.
		{lineOf(0, 50, rigid(10, 0, -1), growing(10, 0, -1, 1)), []int{10, 40}, 1},
		{lineOf(0, 50, shrinking(10, 15, -1, 9), growing(10, 0, -1, 1)), []int{15, 35}, 1},
		{lineOf(0, 50, shrinking(10, 0, 7, 9), growing(10, 0, -1, 1)), []int{7, 43}, 1},
		{lineOf(0, 50, growing(10, 0, -1, 1), rigid(10, 0, -1), growing(10, 0, -1, 2)), []int{16, 10, 24}, 1},
		{lineOf(0, 20, growing(10, 15, -1, 9), shrinking(10, 0, -1, 1)), []int{15, 5}, 1},
		{lineOf(0, 12, growing(10, 0, 7, 9), shrinking(10, 0, -1, 1)), []int{7, 5}, 1},
		{lineOf(0, 5, rigid(10, 0, -1), shrinking(10, 0, -1, 1)), []int{10, 0}, 1},
		{lineOf(0, 5, rigid(10, 0, -1), shrinking(10, 2, -1, 1)), []int{10, 2}, 1},
		// A Base of 0 makes the weight of Shrink 0.
		{lineOf(0, 4, shrinking(0, 0, -1, 1), shrinking(10, 0, -1, 1)), []int{0, 4}, 1},
		{lineOf(0, 9, shrinking(0, 5, -1, 1000), shrinking(10, 0, -1, 1)), []int{5, 4}, 1},
		{lineOf(0, 3, shrinking(0, 5, -1, 1)), []int{5}, 0},
		{lineOf(0, 0, shrinking(0, 0, -1, 1)), []int{0}, 0},
		{lineOf(9, 3, times(3, shrinking(0, 5, -1, 1))...), []int{5, 5, 5}, 0},
		// It does not do so for Grow.
		{lineOf(0, 9, item(0, 0, -1, 1, 1)), []int{9}, 1},
	})
}

func TestMostOfAnItem(t *testing.T) {
	checkFlexCases(t, []flexCase{
		// Less than Least.
		{lineOf(0, 100, growing(10, 30, 20, 1)), []int{30}, 1},
		{lineOf(0, 100, growing(10, 30, 20, 1), growing(10, 0, -1, 1)), []int{30, 70}, 2},
		{lineOf(0, 10, shrinking(50, 30, 20, 1)), []int{30}, 1},
		{lineOf(0, 75, shrinking(50, 30, 20, 1), shrinking(50, 0, -1, 1)), []int{30, 45}, 2},
		{lineOf(0, 40, shrinking(50, 30, 20, 1), shrinking(50, 0, -1, 1)), []int{30, 10}, 2},
		{lineOf(0, 100, item(25, 30, 20, 1, 1)), []int{30}, 1},
		{lineOf(0, 5, item(25, 30, 20, 1, 1)), []int{30}, 0},
		{lineOf(0, 100, item(25, 30, 0, 1, 1), item(0, 30, 29, 1, 1)), []int{30, 30}, 1},
		// -1, so that there is none.
		{lineOf(0, 100000, growing(10, 0, -1, 1)), []int{100000}, 1},
		{lineOf(0, impl.MaxLen, growing(10, 0, -1, 1)), []int{impl.MaxLen}, 1},
		{lineOf(0, 90, growing(10, 30, -1, 1), growing(10, 50, -1, 1)), []int{40, 50}, 2},
		// 0
		{lineOf(0, 10, growing(0, 0, 0, 1)), []int{0}, 1},
		{lineOf(0, 10, growing(0, 0, 0, 1), growing(0, 0, -1, 1)), []int{0, 10}, 2},
		{lineOf(0, 10, growing(10, 0, 0, 1)), []int{0}, 0},
		{lineOf(0, 10, item(10, 5, 0, 1, 1)), []int{5}, 0},
		{lineOf(0, 3, item(10, 5, 0, 1, 1)), []int{5}, 1},
		{lineOf(0, 5, shrinking(10, 0, 0, 1), shrinking(10, 0, -1, 1)), []int{0, 5}, 2},
		// 1
		{lineOf(0, 10, growing(0, 0, 1, 1), growing(0, 0, -1, 1)), []int{1, 9}, 2},
		// Equal to Least.
		{lineOf(0, 100, growing(10, 30, 30, 1), growing(10, 0, -1, 1)), []int{30, 70}, 2},
		{lineOf(0, 60, growing(10, 30, 30, 1), growing(10, 0, -1, 1)), []int{30, 30}, 1},
		{lineOf(0, 59, growing(10, 30, 30, 1), growing(10, 0, -1, 1)), []int{30, 29}, 2},
	})
}

func TestBasesOutsideOfTheLimitsAtTheStart(t *testing.T) {
	checkFlexCases(t, []flexCase{
		// A Base that is greater than the hypothetical size is frozen only in a line that grows.
		{lineOf(0, 100, growing(50, 0, 20, 1), growing(10, 0, -1, 1)), []int{20, 80}, 1},
		{lineOf(0, 100, growing(50, 0, 49, 1), growing(10, 0, -1, 1)), []int{49, 51}, 1},
		{lineOf(0, 100, growing(50, 0, 50, 1), growing(10, 0, -1, 1)), []int{50, 50}, 2},
		{lineOf(0, 50, shrinking(50, 0, 20, 1), shrinking(50, 0, -1, 1)), []int{20, 30}, 2},
		{lineOf(0, 30, shrinking(50, 0, 20, 1), shrinking(50, 0, -1, 1)), []int{15, 15}, 1},
		// A Base that is less is frozen only in a line that does not grow.
		{lineOf(0, 60, shrinking(10, 30, -1, 1), shrinking(50, 0, -1, 1)), []int{30, 30}, 1},
		{lineOf(0, 60, shrinking(10, 11, -1, 1), shrinking(50, 0, -1, 1)), []int{11, 49}, 1},
		{lineOf(0, 48, shrinking(10, 10, -1, 1), shrinking(50, 0, -1, 1)), []int{10, 38}, 2},
		{lineOf(0, 100, growing(10, 30, -1, 1), growing(10, 0, -1, 1)), []int{50, 50}, 1},
		{lineOf(0, 50, growing(10, 30, -1, 1), growing(10, 0, -1, 1)), []int{30, 20}, 2},
		// All of them.
		{lineOf(0, 100, growing(50, 0, 20, 1), growing(70, 0, 30, 1)), []int{20, 30}, 0},
		{lineOf(0, 10, shrinking(5, 20, -1, 1), shrinking(7, 30, -1, 1)), []int{20, 30}, 0},
	})
}

func TestLinesThatAreFilled(t *testing.T) {
	a, b := item(10, 0, -1, 1, 1), item(20, 0, -1, 1, 1)
	checkFlexCases(t, []flexCase{
		{lineOf(5, 35, a, b), []int{10, 20}, 1},
		{lineOf(5, 34, a, b), []int{9, 20}, 1},
		{lineOf(5, 36, a, b), []int{10, 21}, 1},
		{lineOf(0, 35, item(10, 15, -1, 1, 1), b), []int{15, 20}, 1},
		{lineOf(0, 34, item(10, 15, -1, 1, 1), b), []int{15, 19}, 1},
		{lineOf(0, 36, item(10, 15, -1, 1, 1), b), []int{15, 21}, 2},
		{lineOf(0, 26, item(10, 0, 6, 1, 1), b), []int{6, 20}, 2},
		{lineOf(0, 25, item(10, 0, 6, 1, 1), b), []int{6, 19}, 2},
		{lineOf(0, 27, item(10, 0, 6, 1, 1), b), []int{6, 21}, 1},
		// The limits leave no choice.
		{lineOf(0, 30, item(10, 10, 10, 1, 1), item(20, 20, 20, 1, 1)), []int{10, 20}, 1},
		{lineOf(0, 29, item(10, 10, 10, 1, 1), item(20, 20, 20, 1, 1)), []int{10, 20}, 1},
		{lineOf(0, 31, item(10, 10, 10, 1, 1), item(20, 20, 20, 1, 1)), []int{10, 20}, 1},
	})
}

func TestMarginsOfALine(t *testing.T) {
	x := item(10, 0, -1, 1, 1)
	checkFlexCases(t, []flexCase{
		{lineOf(0, 20, withMargins(x, 3, 4)), []int{13}, 1},
		{lineOf(0, 20, withMargins(x, 0, 4)), []int{16}, 1},
		{lineOf(0, 20, withMargins(x, 3, 0)), []int{17}, 1},
		{lineOf(0, 20, withMargins(x, 9, 9)), []int{2}, 1},
		{lineOf(0, 20, withMargins(x, 90, 0)), []int{0}, 1},
		// Negative ones make room.
		{lineOf(0, 20, withMargins(x, -5, -3)), []int{28}, 1},
		{lineOf(0, 20, withMargins(x, -15, 9)), []int{26}, 1},
		{lineOf(0, 2, withMargins(x, -5, -3)), []int{10}, 1},
		{lineOf(0, 1, withMargins(x, -5, -3)), []int{9}, 1},
		{lineOf(0, 0, withMargins(x, -5, -30)), []int{35}, 1},
		{lineOf(0, 0, withMargins(item(10, 0, 12, 1, 1), -5, -30)), []int{12}, 1},
		{lineOf(0, 0, withMargins(x, -50, 0), withMargins(x, 0, 10)), []int{20, 20}, 1},
		{lineOf(4, 50, withMargins(x, -2, 7), withMargins(x, 5, -8)), []int{22, 22}, 1},
		{lineOf(4, 10, withMargins(x, -2, 7), withMargins(x, 5, -8)), []int{2, 2}, 1},
		{lineOf(0, 0, withMargins(x, impl.MaxLen, -impl.MaxLen)), []int{0}, 1},
		{lineOf(0, 20, withMargins(x, impl.MaxLen, -impl.MaxLen)), []int{20}, 1},
	})
}

func TestGapsAndInnerSizes(t *testing.T) {
	x := item(10, 0, -1, 1, 1)
	checkFlexCases(t, []flexCase{
		{lineOf(0, 40, x, x), []int{20, 20}, 1},
		{lineOf(1, 40, x, x), []int{19, 20}, 1},
		{lineOf(5, 40, x, x, x), []int{10, 10, 10}, 1},
		{lineOf(5, 37, x, x, x), []int{9, 9, 9}, 1},
		{lineOf(5, 43, x, x, x), []int{11, 11, 11}, 1},
		{lineOf(impl.MaxLen, impl.MaxLen, x, x), []int{0, 0}, 1},
		{lineOf(impl.MaxLen, 0, x, x), []int{0, 0}, 1},
		{lineOf(impl.MaxLen-1, impl.MaxLen, x, x), []int{0, 1}, 1},
		// One item has no gap.
		{lineOf(impl.MaxLen, impl.MaxLen, x), []int{impl.MaxLen}, 1},
		{lineOf(impl.MaxLen, 10, x), []int{10}, 1},
		{lineOf(0, 0, x, x), []int{0, 0}, 1},
		{lineOf(0, 1, x, x), []int{0, 1}, 1},
		{lineOf(0, impl.MaxLen, x, x), []int{impl.MaxLen / 2, impl.MaxLen / 2}, 1},
		{lineOf(0, impl.MaxLen-1, x, x), []int{impl.MaxLen/2 - 1, impl.MaxLen / 2}, 1},
		// Outside of the range, the sizes are the hypothetical ones.
		{lineOf(-1, 40, x, x), []int{10, 10}, 0},
		{lineOf(impl.MaxLen+1, 40, x, x), []int{10, 10}, 0},
		{lineOf(-1, 40, x), []int{10}, 0},
		{lineOf(impl.MaxLen+1, 40, x), []int{10}, 0},
		{lineOf(math.MinInt, 40, x, x), []int{10, 10}, 0},
		{lineOf(math.MaxInt, 40, x, x), []int{10, 10}, 0},
		{lineOf(0, -1, x, x), []int{10, 10}, 0},
		{lineOf(0, impl.MaxLen+1, x, x), []int{10, 10}, 0},
		{lineOf(0, math.MinInt, x, x), []int{10, 10}, 0},
		{lineOf(0, math.MaxInt, x, x), []int{10, 10}, 0},
		{lineOf(-1, -1, item(10, 15, -1, 1, 1), item(10, 0, 5, 1, 1), item(10, 30, 20, 1, 1)), []int{15, 5, 30}, 0},
		{lineOf(0, impl.MaxLen+1, item(10, 15, -1, 1, 1), item(10, 0, 5, 1, 1)), []int{15, 5}, 0},
	})
}

// TestSpaceBeyondMaxLen has an F that is clamped, so that a line is not filled.
func TestSpaceBeyondMaxLen(t *testing.T) {
	const most, half = impl.MaxLen, impl.MaxLen / 2
	pulled := func(x impl.Item) impl.Item { return withMargins(x, -most, -most) }
	pushed := func(x impl.Item) impl.Item { return withMargins(x, most, most) }
	checkFlexCases(t, []flexCase{
		// Exactly MaxLen, one less, one more.
		{lineOf(0, most, times(2, growing(0, 0, -1, 1))...), []int{half, half}, 1},
		{lineOf(0, most-1, withMargins(growing(0, 0, -1, 1), -2, 0), growing(0, 0, -1, 1)), []int{half, half}, 1},
		{lineOf(0, most, withMargins(growing(0, 0, -1, 1), 1, 0), growing(0, 0, -1, 1)), []int{half - 1, half}, 1},
		{lineOf(0, 0, times(2, shrinking(half, 0, -1, 1))...), []int{0, 0}, 1},
		{lineOf(0, 0, times(2, shrinking(half+1, 0, -1, 1))...), []int{1, 1}, 1},
		// The clamped F does not violate a limit that F itself would violate.
		{lineOf(0, most, times(2, pulled(growing(0, 0, half, 1)))...), []int{half, half}, 1},
		{lineOf(0, most, times(2, pulled(growing(0, 0, half+1, 1)))...), []int{half, half}, 1},
		{lineOf(0, most, times(2, pulled(growing(0, 0, half-1, 1)))...), []int{half - 1, half - 1}, 1},
		{lineOf(0, most, pulled(growing(0, 0, 9, 1)), pulled(growing(0, 0, -1, 1))), []int{9, most}, 2},
		{lineOf(0, 0, times(2, shrinking(most, half, -1, 1))...), []int{half, half}, 1},
		{lineOf(0, 0, times(2, shrinking(most, half-1, -1, 1))...), []int{half, half}, 1},
		{lineOf(0, 0, times(2, shrinking(most, half+1, -1, 1))...), []int{half + 1, half + 1}, 1},
		{lineOf(0, 0, times(2, pushed(shrinking(most, 0, -1, 1)))...), []int{half, half}, 1},
		{lineOf(most, 0, times(3, shrinking(9, 0, -1, 1))...), []int{0, 0, 0}, 1},
		// A size is clamped, too.
		{lineOf(0, most, pulled(growing(10, 0, -1, 1))), []int{most}, 1},
		{lineOf(0, most, pulled(growing(10, 0, most, 1))), []int{most}, 1},
		{lineOf(0, most, pulled(growing(most, 0, -1, 1)), pulled(growing(10, 0, -1, 3))), []int{most, 10 + 3*most/4}, 1},
		// The greatest weights.
		{lineOf(0, 0, times(12, shrinking(most, 0, -1, 1000))...), []int{961194, 961195, 961195, 961194, 961195, 961195, 961194, 961195, 961195, 961194, 961195, 961195}, 1},
		{lineOf(0, most, times(12, pulled(growing(0, 0, -1, 1000)))...), []int{87381, 87381, 87382, 87381, 87381, 87382, 87381, 87381, 87382, 87381, 87381, 87382}, 1},
	})
}

func TestNumberOfItems(t *testing.T) {
	x := item(10, 0, -1, 1, 1)
	checkFlexCases(t, []flexCase{
		{lineOf(0, 0), nil, 0},
		{lineOf(5, 100), nil, 0},
		{lineOf(impl.MaxLen, impl.MaxLen), nil, 0},
		{lineOf(-1, 100), nil, 0},
		{lineOf(0, -1), nil, 0},
		{lineOf(5, 100, x), []int{100}, 1},
		{lineOf(5, 7, x), []int{7}, 1},
		{lineOf(0, 160, times(12, x)...), []int{13, 13, 14, 13, 13, 14, 13, 13, 14, 13, 13, 14}, 1},
		{lineOf(1, 111, times(12, x)...), []int{8, 8, 9, 8, 8, 9, 8, 8, 9, 8, 8, 9}, 1},
		// One more.
		{lineOf(0, 1300, times(13, x)...), many(10, 13), 0},
		{lineOf(0, 13, times(13, x)...), many(10, 13), 0},
		{lineOf(0, 13, times(13, item(10, 15, 5, 1, 1))...), many(15, 13), 0},
		{lineOf(0, 1300, append(times(12, item(10, 15, -1, 1, 1)), item(10, 0, 5, 1, 1))...), append(many(15, 12), 5), 0},
		{lineOf(0, 100, times(40, x)...), many(10, 40), 0},
	})
}

// TestAPassForEachItem has a line in which each pass freezes one item.
func TestAPassForEachItem(t *testing.T) {
	mosts := []int{1, 250126, 250251, 187844, 124404, 77945, 45333, 28240, 16025, 8965, 4958, -1}
	grows := []int{1000, 500, 250, 125, 62, 31, 15, 8, 4, 2, 1, 1}
	var items []impl.Item
	for i, most := range mosts {
		items = append(items, growing(0, 0, most, grows[i]))
	}
	last := slices.Clone(mosts)
	last[11] = 5908
	checkFlexCases(t, []flexCase{{line{items, 0, 1000000}, last, 12}})
	slices.Reverse(items)
	slices.Reverse(last)
	checkFlexCases(t, []flexCase{{line{items, 0, 1000000}, last, 12}})
}

// TestItemsThatAreNotValid has one field at a limit and one beyond it, at each place of a line that grows and of one that shrinks.
func TestItemsThatAreNotValid(t *testing.T) {
	for _, l := range itemLimits() {
		for _, n := range numbersNear(l) {
			for i := range 3 {
				items := withItemAt(times(3, fullItem()), i, withItem(fullItem(), l.name, n))
				for _, inner := range []int{0, 100, 200, impl.MaxLen} {
					x := line{items, 5, inner}
					checkFlex(t, x)
					if n >= l.least && n <= l.most {
						continue
					}
					if sizes := impl.FlexLine(items, 5, inner); !slices.Equal(sizes, wantHyps(items)) || impl.FlexPasses(items, 5, inner) != 0 {
						t.Errorf("FlexLine of %v = %d, not the hypothetical sizes", x, sizes)
					}
				}
			}
		}
	}
}

func TestFlexingOfTheEndsOfInt(t *testing.T) {
	ends := []int{math.MinInt, math.MinInt + 1, math.MaxInt - 1, math.MaxInt}
	numbers := append(ends, -1, 0, 10, impl.MaxLen, impl.MaxLen+1)
	lists := [][]impl.Item{nil, {fullItem()}, times(2, item(10, 0, -1, 1, 1)), times(13, fullItem())}
	for _, x := range endItems() {
		lists = append(lists, []impl.Item{x}, []impl.Item{x, x}, []impl.Item{fullItem(), x}, times(13, x))
		if impl.ItemOk(x) || impl.ItemsOk([]impl.Item{x}) || impl.ItemsOk([]impl.Item{fullItem(), x}) {
			t.Errorf("%+v is valid", x)
		}
	}
	for _, list := range lists {
		for _, gap := range numbers {
			for _, inner := range numbers {
				l := line{list, gap, inner}
				checkFlex(t, l)
				if got, want := impl.Grows(list, gap, inner), wantOuter(list, wantHyps(list), gap) < inner; got != want {
					t.Errorf("Grows of %v = %v", l, got)
				}
			}
		}
	}
}

// TestNoSizeViolatesALimit goes through every two and three items of a few, and every inner size around them.
func TestNoSizeViolatesALimit(t *testing.T) {
	two := itemsFrom([]int{0, 3, 10}, []int{0, 4}, []int{-1, 0, 5}, []int{0, 1}, []int{0, 2})
	for _, a := range two {
		checkFlex(t, lineOf(7, 6, a))
		for _, b := range two {
			for _, inner := range []int{0, 5, 9, 14, 25} {
				checkFlex(t, lineOf(1, inner, a, b))
			}
		}
	}
	three := itemsFrom([]int{2, 6}, []int{0, 3}, []int{-1, 4}, []int{1}, []int{1})
	for _, a := range three {
		for _, b := range three {
			for _, c := range three {
				for inner := range 22 {
					checkFlex(t, lineOf(0, inner, a, b, c))
				}
			}
		}
	}
}

// TestLinesOfAnyItems has small and large numbers, and asks for every kind of pass to occur.
func TestLinesOfAnyItems(t *testing.T) {
	r := rand.New(rand.NewSource(13))
	reached := map[string]int{}
	for i := range 60000 {
		l := anyLine(r, []int{3, 10, 100, 5000, impl.MaxLen}[i%5])
		w := checkFlex(t, l)
		for kind := range w.reached {
			reached[kind]++
		}
		reached[fmt.Sprintf("grows %v in %d passes", w.grows, min(w.passes, 4))]++
	}
	kinds := []string{"a space beyond the limits"}
	for sign := -1; sign <= 1; sign++ {
		kinds = append(kinds, fmt.Sprintf("both limits, sum of sign %d", sign))
	}
	for passes := range 5 {
		kinds = append(kinds, fmt.Sprintf("grows true in %d passes", passes), fmt.Sprintf("grows false in %d passes", passes))
	}
	for _, kind := range kinds {
		if reached[kind] < 20 {
			t.Errorf("%s: only %d of the lines", kind, reached[kind])
		}
	}
}

// roomyItems returns a copy of list with spare capacity that is not zero.
func roomyItems(list []impl.Item) []impl.Item {
	return append(slices.Clone(list), fullItem(), growing(91, 92, 93, 94))[:len(list)]
}

// TestFlexingSharesNoMemory looks at the spare capacity too, and at the addresses of what is returned.
func TestFlexingSharesNoMemory(t *testing.T) {
	r := rand.New(rand.NewSource(31))
	lines := []line{lineOf(0, 100), lineOf(0, -1, fullItem()), lineOf(0, 100, times(13, fullItem())...), lineOf(0, 50, rigid(10, 0, -1))}
	for range 300 {
		lines = append(lines, anyLine(r, 100))
	}
	for _, l := range lines {
		list, sizes := roomyItems(l.items), append(wantHyps(l.items), 91, 92)[:len(l.items)]
		before, sizesBefore := slices.Clone(list[:cap(list)]), slices.Clone(sizes[:cap(sizes)])
		first, second := impl.FlexLine(list, l.gap, l.inner), impl.FlexLine(list, l.gap, l.inner)
		if sharesMemory(first, list, second) || sharesMemory(second, list) {
			t.Errorf("the sizes of %v are shared memory", l)
		}
		// What a result is used for later does not change another result.
		clear(first[:cap(first)])
		if again := impl.FlexLine(list, l.gap, l.inner); !slices.Equal(again, second) {
			t.Errorf("FlexLine of %v = %d, and then %d", l, second, again)
		}
		impl.FlexPasses(list, l.gap, l.inner)
		impl.Grows(list, l.gap, l.inner)
		impl.OuterOf(list, sizes, l.gap)
		impl.ItemsOk(list)
		if !slices.Equal(list[:cap(list)], before) || !slices.Equal(sizes[:cap(sizes)], sizesBefore) {
			t.Errorf("%v became %+v with the sizes %d", l, list[:cap(list)], sizes[:cap(sizes)])
		}
	}
}
