package tests

import (
	"fmt"
	"math"
	"math/rand"
	"slices"
	"testing"

	"loop.example/g00972/impl"
)

func TestSideOk(t *testing.T) {
	most := impl.MaxLen
	for _, c := range []struct {
		side impl.Side
		want bool
	}{
		{fullSide(), true},
		{impl.Side{Size: 20, Behind: 5, Align: impl.AlEnd}, true},
		{baseSide(most, most, most, most), true},
		{baseSide(0, 0, -most, -most), true},
		// The baseline may be behind the end of the item.
		{baseSide(30, 20, 0, 0), true},
		{sideOf(impl.AlStretch, 0, 0, 0), true},
		{sideOf(impl.AlStart, 0, 0, 0), true},
		{sideOf(impl.AlEnd, 0, 0, 0), true},
		{sideOf(impl.AlCenter, 0, 0, 0), true},
		{sideOf(impl.AlBase, 0, 0, 0), true},
		// An item has an alignment of its own, unlike the style of a box.
		{sideOf(impl.AlAuto, 20, 0, 0), false},
		{impl.Side{}, false},
		{sideOf(impl.AlBase+1, 20, 0, 0), false},
		{sideOf(-1, 20, 0, 0), false},
		{sideOf(1<<32+1, 20, 0, 0), false},
		{sideOf(impl.AlEnd, -1, 0, 0), false},
		{sideOf(impl.AlEnd, most+1, 0, 0), false},
		{sideOf(impl.AlEnd, 20, -most-1, 0), false},
		{sideOf(impl.AlEnd, 20, most+1, 0), false},
		{sideOf(impl.AlEnd, 20, 0, -most-1), false},
		{sideOf(impl.AlEnd, 20, 0, most+1), false},
		{baseSide(-1, 20, 0, 0), false},
		{baseSide(most+1, 20, 0, 0), false},
		{sideOf(impl.AlEnd, math.MinInt, 0, 0), false},
		{sideOf(impl.AlEnd, 20, math.MinInt, 0), false},
		{sideOf(impl.AlEnd, 20, 0, math.MaxInt), false},
		{baseSide(math.MaxInt, 20, 0, 0), false},
	} {
		for _, x := range autoSides(c.side) {
			if got := impl.SideOk(x); got != c.want {
				t.Errorf("SideOk(%+v) = %t", x, got)
			}
		}
	}
}

func TestSideOkOfEachField(t *testing.T) {
	for _, l := range sideLimits() {
		for _, n := range numbersNear(l) {
			for _, x := range []impl.Side{fullSide(), sideOf(impl.AlStretch, 0, 0, 0), baseSide(7, impl.MaxLen, -8, 9)} {
				for _, x := range autoSides(withSideNumber(x, l.name, n)) {
					if got, want := impl.SideOk(x), n >= l.least && n <= l.most; got != want {
						t.Errorf("SideOk(%+v) = %t", x, got)
					}
					// A Base that is not valid is rejected even where nothing is on the baseline.
					checkSide(t, x, 100, 30)
					checkSides(t, []impl.Side{x})
					checkSides(t, []impl.Side{fullSide(), x, sideOf(impl.AlEnd, 30, 0, 0)})
				}
			}
		}
	}
}

func TestSideOkOfTwoFields(t *testing.T) {
	for i, l := range sideLimits() {
		for _, other := range sideLimits()[i+1:] {
			for _, n := range []int{l.least - 1, l.least, l.most, l.most + 1} {
				for _, m := range []int{other.least - 1, other.least, other.most, other.most + 1} {
					x := withSideNumber(withSideNumber(fullSide(), l.name, n), other.name, m)
					want := n >= l.least && n <= l.most && m >= other.least && m <= other.most
					if got := impl.SideOk(x); got != want {
						t.Errorf("SideOk(%+v) = %t", x, got)
					}
				}
			}
		}
	}
}

func TestOnBaseAndFills(t *testing.T) {
	for _, align := range append(everyAlign(), otherAlign()...) {
		for _, n := range []int{0, 1, -1, 20, impl.MaxLen, impl.MaxLen + 1, math.MinInt, math.MaxInt} {
			// Neither of them asks for an item that is valid.
			for i, x := range autoSides(alignedSide(endSide(n), align)) {
				if got := impl.OnBase(x); got != (i == 0 && align == impl.AlBase) {
					t.Errorf("OnBase(%+v) = %t", x, got)
				}
				if got := impl.Fills(x); got != (i == 0 && align == impl.AlStretch) {
					t.Errorf("Fills(%+v) = %t", x, got)
				}
			}
		}
	}
}

func TestBaseOf(t *testing.T) {
	first, second := baseSide(15, 20, 0, 0), baseSide(5, 30, 0, 0)
	checkLineCases(t, "BaseOf", impl.BaseOf, []lineCase{
		{[]impl.Side{first, second}, 15},
		{[]impl.Side{second, first}, 15},
		{[]impl.Side{second}, 5},
		{[]impl.Side{first, first}, 15},
		// The margin before an item moves its baseline, and the one behind it does not.
		{[]impl.Side{baseSide(15, 20, 3, 0)}, 18},
		{[]impl.Side{baseSide(15, 20, 0, 30)}, 15},
		{[]impl.Side{first, baseSide(5, 30, 11, 0)}, 16},
		{[]impl.Side{first, baseSide(5, 30, 10, 0)}, 15},
		{[]impl.Side{baseSide(15, 20, -11, 0), second}, 5},
		{[]impl.Side{baseSide(15, 20, -9, 0), second}, 6},
		// It may be behind the end of the item.
		{[]impl.Side{baseSide(50, 20, 0, 0), second}, 50},
		// It may be before the line, and only a line without a baseline has 0.
		{[]impl.Side{baseSide(5, 20, -8, 0)}, -3},
		{[]impl.Side{baseSide(5, 20, -8, 0), baseSide(5, 20, -7, 0)}, -2},
		{[]impl.Side{baseSide(5, 20, -7, 0), baseSide(5, 20, -8, 0)}, -2},
		{[]impl.Side{baseSide(5, 20, -8, 0), sideOf(impl.AlEnd, 20, 0, 0)}, -3},
		{[]impl.Side{sideOf(impl.AlEnd, 20, 0, 0), baseSide(5, 20, -8, 0)}, -3},
		{[]impl.Side{baseSide(5, 20, -8, 0), baseSide(0, 20, 0, 0)}, 0},
		{[]impl.Side{baseSide(5, 20, -5, 0)}, 0},
		{[]impl.Side{baseSide(0, 0, -impl.MaxLen, 0)}, -impl.MaxLen},
		// It is not clamped.
		{[]impl.Side{baseSide(impl.MaxLen, 0, impl.MaxLen, 0)}, 2 * impl.MaxLen},
		// There is none.
		{nil, 0},
		{[]impl.Side{}, 0},
		{[]impl.Side{alignedSide(first, impl.AlStretch), alignedSide(first, impl.AlStart)}, 0},
		{[]impl.Side{alignedSide(first, impl.AlEnd), alignedSide(first, impl.AlCenter), alignedSide(first, impl.AlAuto)}, 0},
		{autoSides(first)[1:], 0},
		// The others do not count.
		{[]impl.Side{alignedSide(first, impl.AlStretch), second, alignedSide(first, impl.AlCenter)}, 5},
		{append(autoSides(first)[1:], second), 5},
		{append([]impl.Side{baseSide(5, 20, -8, 0)}, autoSides(first)[1:]...), -3},
	})
}

// TestBaseOfAnyItems has items that are not valid and more of them than there may be, as BaseOf asks for neither.
func TestBaseOfAnyItems(t *testing.T) {
	first := baseSide(15, 20, 0, 0)
	checkLineCases(t, "BaseOf", impl.BaseOf, []lineCase{
		{[]impl.Side{first, baseSide(16, -1, 0, 0)}, 16},
		{[]impl.Side{first, baseSide(16, impl.MaxLen+1, 0, 0)}, 16},
		{[]impl.Side{first, baseSide(16, 20, 0, impl.MaxLen+1)}, 16},
		{[]impl.Side{first, baseSide(-1, 20, 17, 0)}, 16},
		{[]impl.Side{baseSide(-1, 20, 0, 0)}, -1},
		{[]impl.Side{first, baseSide(impl.MaxLen+1, 20, 0, 0)}, impl.MaxLen + 1},
		{[]impl.Side{first, baseSide(0, 20, impl.MaxLen+1, 0)}, impl.MaxLen + 1},
		{[]impl.Side{baseSide(0, 20, -impl.MaxLen-1, 0)}, -impl.MaxLen - 1},
		{[]impl.Side{baseSide(math.MinInt, 20, 0, 0)}, math.MinInt},
		{[]impl.Side{baseSide(0, 20, math.MinInt, 0)}, math.MinInt},
		{[]impl.Side{baseSide(math.MinInt, 20, 0, 0), first}, 15},
		{[]impl.Side{baseSide(math.MaxInt, 20, 0, 0), first}, math.MaxInt},
		{[]impl.Side{baseSide(math.MaxInt, 20, math.MinInt, 0)}, -1},
		// It wraps around.
		{[]impl.Side{baseSide(math.MaxInt, 20, 1, 0)}, math.MinInt},
		{[]impl.Side{baseSide(math.MaxInt, 20, 1, 0), first}, 15},
		{[]impl.Side{baseSide(math.MinInt, 20, -1, 0), first}, math.MaxInt},
		{[]impl.Side{baseSide(math.MaxInt, 20, math.MaxInt, 0)}, -2},
		{append(slices.Repeat([]impl.Side{first}, 12), baseSide(17, 20, 0, 0)), 17},
		{append(slices.Repeat([]impl.Side{first}, 100), baseSide(17, 20, 0, 0)), 17},
	})
}

func TestCrossOf(t *testing.T) {
	first, second := baseSide(15, 20, 0, 0), baseSide(5, 30, 0, 0)
	checkLineCases(t, "CrossOf", impl.CrossOf, []lineCase{
		{nil, 0},
		{[]impl.Side{}, 0},
		// None on the baseline.
		{[]impl.Side{sideOf(impl.AlStart, 20, 0, 0)}, 20},
		{[]impl.Side{sideOf(impl.AlStart, 20, 3, 4)}, 27},
		{[]impl.Side{sideOf(impl.AlEnd, 20, 3, 4), sideOf(impl.AlCenter, 26, 0, 0)}, 27},
		{[]impl.Side{sideOf(impl.AlEnd, 20, 3, 4), sideOf(impl.AlCenter, 28, 0, 0)}, 28},
		{[]impl.Side{sideOf(impl.AlEnd, 20, 3, -4), sideOf(impl.AlStretch, 18, 0, 0)}, 19},
		{[]impl.Side{sideOf(impl.AlEnd, 20, -3, 4)}, 21},
		{[]impl.Side{sideOf(impl.AlStart, 0, 0, 0)}, 0},
		{[]impl.Side{sideOf(impl.AlStart, 0, 7, 0)}, 7},
		{[]impl.Side{sideOf(impl.AlStart, 0, 0, 7)}, 7},
		// The distance of their baselines does not count.
		{[]impl.Side{alignedSide(first, impl.AlStart), alignedSide(second, impl.AlEnd)}, 30},
		// All on the baseline: the most above it and the most below it may be those of different items.
		{[]impl.Side{first}, 20},
		{[]impl.Side{first, first}, 20},
		{[]impl.Side{first, second}, 40},
		{[]impl.Side{second, first}, 40},
		{[]impl.Side{first, second, baseSide(10, 20, 0, 0)}, 40},
		{[]impl.Side{baseSide(15, 20, 3, 4)}, 27},
		{[]impl.Side{baseSide(15, 20, 3, 4), second}, 43},
		{[]impl.Side{baseSide(15, 20, 3, 21), second}, 44},
		{[]impl.Side{baseSide(15, 20, -3, 0), second}, 37},
		{[]impl.Side{first, baseSide(5, 30, 0, -21)}, 20},
		// A baseline behind the end of the item.
		{[]impl.Side{baseSide(30, 20, 0, 0)}, 20},
		{[]impl.Side{baseSide(30, 20, 0, 0), baseSide(0, 10, 0, 0)}, 40},
		{[]impl.Side{baseSide(30, 20, 0, 0), baseSide(30, 25, 0, 0)}, 25},
		{[]impl.Side{baseSide(30, 20, 0, -15)}, 5},
		// A baseline before the line.
		{[]impl.Side{baseSide(5, 40, -25, 0)}, 15},
		{[]impl.Side{baseSide(5, 40, -25, 0), baseSide(0, 10, -30, 0)}, 15},
		{[]impl.Side{baseSide(5, 40, -25, 0), baseSide(0, 40, -30, 0)}, 20},
		// Some on the baseline, which are longer or shorter than the others.
		{[]impl.Side{first, second, sideOf(impl.AlEnd, 39, 0, 0)}, 40},
		{[]impl.Side{first, second, sideOf(impl.AlEnd, 41, 0, 0)}, 41},
		{[]impl.Side{sideOf(impl.AlStretch, 30, 5, 6), first, second}, 41},
		{[]impl.Side{first, sideOf(impl.AlStart, 21, 0, 0)}, 21},
		{[]impl.Side{baseSide(5, 20, -30, 0), sideOf(impl.AlStart, 1, 0, 0)}, 1},
		// Sums below 0.
		{[]impl.Side{sideOf(impl.AlStart, 5, -20, 0)}, 0},
		{[]impl.Side{sideOf(impl.AlStart, 5, 0, -20)}, 0},
		{[]impl.Side{sideOf(impl.AlStart, 5, -3, -3)}, 0},
		{[]impl.Side{sideOf(impl.AlStart, 5, -2, -2)}, 1},
		{[]impl.Side{baseSide(10, 12, -30, 0)}, 0},
		{[]impl.Side{baseSide(10, 12, 0, -30)}, 0},
		{[]impl.Side{baseSide(10, 12, -30, 0), sideOf(impl.AlEnd, 5, -20, 0)}, 0},
		{[]impl.Side{sideOf(impl.AlEnd, 0, -impl.MaxLen, -impl.MaxLen)}, 0},
		{[]impl.Side{baseSide(impl.MaxLen, 0, -impl.MaxLen, -impl.MaxLen)}, 0},
	})
}

func TestCrossOfBeyondMaxLen(t *testing.T) {
	most := impl.MaxLen
	checkLineCases(t, "CrossOf", impl.CrossOf, []lineCase{
		{[]impl.Side{sideOf(impl.AlStart, most, 0, 0)}, most},
		{[]impl.Side{sideOf(impl.AlStart, most-1, 0, 0)}, most - 1},
		{[]impl.Side{sideOf(impl.AlStart, most-1, 1, 0)}, most},
		{[]impl.Side{sideOf(impl.AlStart, most, 1, 0)}, most},
		{[]impl.Side{sideOf(impl.AlStart, most, 0, 1)}, most},
		{[]impl.Side{sideOf(impl.AlStart, most, most, most)}, most},
		// Only what they add up to is clamped.
		{[]impl.Side{sideOf(impl.AlStart, most, most, -most)}, most},
		{[]impl.Side{sideOf(impl.AlStart, most, -most, most)}, most},
		{[]impl.Side{sideOf(impl.AlStart, 5, most, -most)}, 5},
		{[]impl.Side{sideOf(impl.AlStart, most, 5, -most)}, 5},
		{[]impl.Side{sideOf(impl.AlStart, most, -most, 5)}, 5},
		{[]impl.Side{baseSide(most, most, 0, 0)}, most},
		{[]impl.Side{baseSide(most, most, 0, 0), baseSide(0, 0, 0, 0)}, most},
		{[]impl.Side{baseSide(most, most, 0, 0), baseSide(0, 1, 0, 0)}, most},
		{[]impl.Side{baseSide(most, most, 0, 0), baseSide(0, most, 0, 0)}, most},
		{[]impl.Side{baseSide(most, most, most, most), baseSide(0, most, most, most)}, most},
		{[]impl.Side{baseSide(most, 0, most, -most), sideOf(impl.AlEnd, 5, 0, 0)}, 5},
		{[]impl.Side{baseSide(most, 7, most, -most)}, 7},
		{[]impl.Side{baseSide(most, 0, 0, 0), baseSide(0, 0, most, 0)}, most},
		{[]impl.Side{baseSide(most, 7, -most, 0)}, 0},
		{[]impl.Side{baseSide(most, most, -most, 7)}, 7},
	})
}

// TestBaselineWithAnAutoMargin has items whose auto margin keeps them from the baseline.
func TestBaselineWithAnAutoMargin(t *testing.T) {
	for i, x := range autoSides(baseSide(15, 20, 3, 4)) {
		if i == 0 {
			continue
		}
		for _, c := range []struct {
			list        []impl.Side
			base, cross int
		}{
			{[]impl.Side{x}, 0, 27},
			{[]impl.Side{x, x}, 0, 27},
			{[]impl.Side{x, baseSide(5, 21, 0, 0)}, 5, 27},
			{[]impl.Side{baseSide(5, 21, 0, 0), x}, 5, 27},
			{[]impl.Side{x, baseSide(5, 30, 0, 0)}, 5, 30},
			{[]impl.Side{x, baseSide(5, 21, -8, 0)}, -3, 27},
		} {
			if base, cross := impl.BaseOf(c.list), impl.CrossOf(c.list); base != c.base || cross != c.cross {
				t.Errorf("%+v has the baseline %d and the cross size %d, not %d and %d", c.list, base, cross, c.base, c.cross)
			}
			checkSides(t, c.list)
		}
		// The baseline does not move it, and an alignment does not either.
		for _, align := range everyAlign() {
			for _, base := range []int{0, 18, -18, 1000} {
				x := alignedSide(x, align)
				for cross, want := range map[int][4]int{
					127: {0, 103, 3, 53}, 128: {0, 104, 3, 53}, 28: {0, 4, 3, 3}, 27: {0, 3, 3, 3}, 26: {0, 3, 3, 3}, 0: {0, 3, 3, 3},
				} {
					if got := impl.PlaceAcross(x, cross, base); got != want[i] {
						t.Errorf("PlaceAcross(%+v, %d, %d) = %d, not %d", x, cross, base, got, want[i])
					}
					checkSide(t, x, cross, base)
				}
			}
		}
	}
}

func TestPlaceAcross(t *testing.T) {
	checkAlignCases(t, []alignCase{
		{sideOf(impl.AlStretch, 20, 3, 4), 100, 0, 3},
		{sideOf(impl.AlStart, 20, 3, 4), 100, 0, 3},
		{sideOf(impl.AlEnd, 20, 3, 4), 100, 0, 76},
		{sideOf(impl.AlEnd, 20, 0, 5), 100, 0, 75},
		{sideOf(impl.AlCenter, 20, 3, 4), 100, 0, 39},
		{sideOf(impl.AlCenter, 20, 3, 4), 101, 0, 40},
		{baseSide(5, 30, 0, 0), 40, 15, 10},
		{baseSide(15, 20, 3, 4), 100, 18, 3},
		{baseSide(15, 20, 3, 4), 100, 30, 15},
		{baseSide(15, 20, 3, 4), 100, 5, -10},
		{baseSide(0, 20, 3, 4), 100, 0, 0},
		// The baseline concerns only the items on it, and the cross size only the others.
		{sideOf(impl.AlStart, 20, 3, 4), 100, 18, 3},
		{alignedSide(baseSide(15, 20, 3, 4), impl.AlEnd), 100, 18, 76},
		{baseSide(15, 20, 3, 4), 0, 18, 3},
		{baseSide(15, 20, 3, 4), -1000, 18, 3},
		// Margins below 0.
		{sideOf(impl.AlStart, 20, -3, 4), 100, 0, -3},
		{sideOf(impl.AlEnd, 20, -3, -4), 100, 0, 84},
		{sideOf(impl.AlCenter, 20, -3, 4), 100, 0, 36},
		{baseSide(15, 20, -30, 4), 100, -15, -30},
		// No cross size, and one that is too small.
		{sideOf(impl.AlStretch, 20, 3, 4), 0, 0, 3},
		{sideOf(impl.AlStart, 20, 3, 4), 0, 0, 3},
		{sideOf(impl.AlEnd, 20, 3, 4), 0, 0, -24},
		{sideOf(impl.AlCenter, 20, 3, 4), 0, 0, -11},
		{sideOf(impl.AlCenter, 20, 3, 4), 10, 0, -6},
		{sideOf(impl.AlEnd, 20, 3, 4), -10, 0, -34},
		{sideOf(impl.AlCenter, 20, 3, 4), -10, 0, -16},
		// Auto margins.
		{autoSide(sideOf(impl.AlStart, 20, 3, 4), true, false), 100, 0, 76},
		{autoSide(sideOf(impl.AlEnd, 20, 3, 4), false, true), 100, 0, 3},
		{autoSide(sideOf(impl.AlStretch, 20, 3, 4), true, true), 100, 0, 39},
		{autoSide(sideOf(impl.AlStretch, 20, 3, 4), true, true), 101, 0, 40},
		{autoSide(sideOf(impl.AlStart, 20, -3, 4), true, false), 100, 0, 76},
		{autoSide(sideOf(impl.AlCenter, 20, -3, 4), true, true), 100, 0, 36},
		{autoSide(sideOf(impl.AlEnd, 20, -3, 4), true, true), 10, 0, -3},
		{autoSide(baseSide(15, 20, 3, 4), true, false), 100, 18, 76},
		// A fixed result for an item that is not valid.
		{sideOf(impl.AlAuto, 20, 3, 4), 100, 0, 0},
		{sideOf(impl.AlBase+1, 20, 3, 4), 100, 0, 0},
		{sideOf(impl.AlStart, -1, 3, 4), 100, 0, 0},
		{autoSide(sideOf(impl.AlStart, impl.MaxLen+1, 3, 4), true, false), 100, 0, 0},
		{baseSide(-1, 20, 3, 4), 100, 18, 0},
		{alignedSide(baseSide(-1, 20, 3, 4), impl.AlStart), 100, 18, 0},
	})
}

// TestSmallFreeSpaceBeside has a free space around 0, in which auto margins and the alignments round or do nothing.
func TestSmallFreeSpaceBeside(t *testing.T) {
	for _, c := range []struct{ free, end, center, autoBefore, bothAuto int }{
		{-5, -5, -3, 0, 0},
		{-4, -4, -2, 0, 0},
		{-3, -3, -2, 0, 0},
		{-2, -2, -1, 0, 0},
		{-1, -1, -1, 0, 0},
		{0, 0, 0, 0, 0},
		{1, 1, 0, 1, 0},
		{2, 2, 1, 2, 1},
		{3, 3, 1, 3, 1},
		{4, 4, 2, 4, 2},
		{5, 5, 2, 5, 2},
	} {
		for _, margins := range [][2]int{{0, 0}, {3, 4}, {3, -4}, {-3, 4}, {-30, 0}, {0, -30}} {
			for align, moved := range map[int]int{
				impl.AlStretch: 0, impl.AlStart: 0, impl.AlEnd: c.end, impl.AlCenter: c.center, impl.AlBase: 11 - 5 - margins[0],
			} {
				x := sideOf(align, 20, margins[0], margins[1])
				x.Base = 5
				cross := 20 + margins[0] + margins[1] + c.free
				for i, x := range autoSides(x) {
					want := margins[0] + [4]int{moved, c.autoBefore, 0, c.bothAuto}[i]
					if got := impl.PlaceAcross(x, cross, 11); got != want {
						t.Errorf("PlaceAcross(%+v, %d, 11) = %d, not %d", x, cross, got, want)
					}
					checkSide(t, x, cross, 11)
				}
			}
		}
	}
}

// TestLimitsAligned has the numbers of an item at their limits, with a cross size and a baseline there and beyond.
func TestLimitsAligned(t *testing.T) {
	most := impl.MaxLen
	checkAlignCases(t, []alignCase{
		{sideOf(impl.AlEnd, most, 0, 0), most, 0, 0},
		{sideOf(impl.AlEnd, 0, 0, 0), most, 0, most},
		{sideOf(impl.AlEnd, most, 0, 0), 0, 0, -most},
		{sideOf(impl.AlEnd, most, most, most), 0, 0, -2 * most},
		{sideOf(impl.AlEnd, 0, -most, -most), most, 0, 2 * most},
		{sideOf(impl.AlCenter, most, most, most), 0, 0, most - (3*most)/2},
		{sideOf(impl.AlCenter, most, most, most), -1, 0, most - (3*most)/2 - 1},
		{sideOf(impl.AlStart, most, most, most), 0, 0, most},
		{sideOf(impl.AlStart, 0, -most, 0), most, 0, -most},
		{baseSide(most, 0, 0, 0), 0, 0, -most},
		{baseSide(most, 0, 0, 0), 0, -most, -2 * most},
		{baseSide(0, 0, 0, 0), 0, 2 * most, 2 * most},
		// A cross size has no limits.
		{sideOf(impl.AlEnd, 20, 0, 0), 5 * most, 0, 5*most - 20},
		{sideOf(impl.AlCenter, 20, 0, 0), -4*most - 20, 0, -2*most - 20},
		{autoSide(sideOf(impl.AlEnd, most, most, most), true, false), 4 * most, 0, 2 * most},
		{autoSide(sideOf(impl.AlEnd, 0, -most, -most), true, true), 0, 0, 0},
	})
	for _, size := range []int{0, most} {
		for _, before := range []int{-most, 0, most} {
			for _, behind := range []int{-most, 0, most} {
				for _, base := range []int{0, most} {
					for _, align := range everyAlign() {
						for _, x := range autoSides(alignedSide(baseSide(base, size, before, behind), align)) {
							for _, cross := range lengthNumbers() {
								checkSide(t, x, cross, base)
							}
							checkSides(t, []impl.Side{x})
							checkSides(t, []impl.Side{x, fullSide()})
						}
					}
				}
			}
		}
	}
}

func TestNumberOfSides(t *testing.T) {
	for n := range 13 {
		for i := range n + 1 {
			// The first i items are on the baseline, none of them or all of them too.
			list := append(slices.Repeat([]impl.Side{baseSide(15, 20, 0, 1)}, i), slices.Repeat([]impl.Side{sideOf(impl.AlEnd, 20, 0, 0)}, n-i)...)
			want := 0
			if n > 0 {
				want = 20 + min(i, 1)
			}
			if got := impl.CrossOf(list); got != want {
				t.Errorf("CrossOf of %d items, %d on the baseline = %d, not %d", n, i, got, want)
			}
			checkSides(t, list)
		}
	}
	for _, n := range []int{13, 14, 24, 64, 65, 1000} {
		for _, x := range []impl.Side{baseSide(15, 20, 0, 1), sideOf(impl.AlEnd, 20, 0, 0), sideOf(impl.AlEnd, 0, 0, 0)} {
			checkWrongLine(t, slices.Repeat([]impl.Side{x}, n))
		}
	}
	// The last of the items that there may be counts as the first one does.
	for i := range 12 {
		list := slices.Repeat([]impl.Side{baseSide(15, 20, 0, 0)}, 12)
		list[i] = baseSide(25, 31, 0, 0)
		if base, cross := impl.BaseOf(list), impl.CrossOf(list); base != 25 || cross != 31 {
			t.Errorf("%+v has the baseline %d and the cross size %d", list, base, cross)
		}
		list[i] = sideOf(impl.AlCenter, 31, 0, 0)
		if base, cross := impl.BaseOf(list), impl.CrossOf(list); base != 15 || cross != 31 {
			t.Errorf("%+v has the baseline %d and the cross size %d", list, base, cross)
		}
	}
}

func TestSidesThatAreNotValid(t *testing.T) {
	for _, wrong := range wrongSides() {
		for _, x := range autoSides(wrong) {
			for _, other := range []impl.Side{fullSide(), sideOf(impl.AlEnd, 30, 0, 0)} {
				checkWrongLine(t, []impl.Side{x})
				checkWrongLine(t, []impl.Side{x, other})
				checkWrongLine(t, []impl.Side{other, x})
				checkWrongLine(t, []impl.Side{other, x, other})
				checkWrongLine(t, append(slices.Repeat([]impl.Side{other}, 11), x))
			}
			for _, cross := range []int{100, 0, -1, math.MinInt, math.MaxInt} {
				for _, base := range []int{0, 30, math.MinInt, math.MaxInt} {
					if at := impl.PlaceAcross(x, cross, base); at != 0 {
						t.Errorf("PlaceAcross(%+v, %d, %d) = %d", x, cross, base, at)
					}
					checkSide(t, x, cross, base)
				}
			}
		}
	}
}

func TestAlignedAtTheEndsOfInt(t *testing.T) {
	checkAlignCases(t, []alignCase{
		{sideOf(impl.AlStart, 20, 3, 4), math.MinInt, math.MaxInt, 3},
		{sideOf(impl.AlStretch, 20, 3, 4), math.MaxInt, math.MinInt, 3},
		{sideOf(impl.AlEnd, 20, 3, 4), math.MaxInt, 0, math.MaxInt - 24},
		{sideOf(impl.AlCenter, 20, 3, 4), math.MaxInt, 0, math.MaxInt/2 - 10},
		{baseSide(15, 20, 3, 4), 0, math.MaxInt, math.MaxInt - 15},
		{baseSide(0, 20, 3, 4), 0, math.MinInt, math.MinInt},
		{autoSide(sideOf(impl.AlStart, 20, 3, 4), true, false), math.MaxInt, 0, math.MaxInt - 24},
		{autoSide(sideOf(impl.AlStart, 0, 3, 0), true, false), math.MinInt + 3, 0, 3},
		// It wraps around.
		{baseSide(15, 20, 3, 4), 0, math.MinInt, math.MaxInt - 14},
		{sideOf(impl.AlEnd, 20, 3, 4), math.MinInt, 0, math.MaxInt - 23},
		{sideOf(impl.AlEnd, 20, 3, -30), math.MaxInt, 0, math.MinInt + 9},
		{autoSide(sideOf(impl.AlEnd, 20, 3, 4), true, false), math.MinInt, 0, math.MaxInt - 23},
		{autoSide(sideOf(impl.AlEnd, 0, -3, 0), true, false), math.MaxInt, 0, -3},
	})
	for _, x := range append(wrongSides(), fullSide(), baseSide(0, 0, 0, 0), sideOf(impl.AlEnd, 20, -30, 0)) {
		for _, align := range append(everyAlign(), x.Align) {
			for _, x := range autoSides(alignedSide(x, align)) {
				for _, n := range edgeNumbers() {
					checkSide(t, x, n, 18)
					checkSide(t, x, 100, n)
					checkSide(t, x, n, n)
				}
				checkSides(t, []impl.Side{x})
				checkSides(t, []impl.Side{fullSide(), x})
			}
		}
	}
}

// TestItemsOnTheBaseline goes through every line of up to three small items, which checkSides compares with promise 17.
func TestItemsOnTheBaseline(t *testing.T) {
	kinds := []impl.Side{
		baseSide(0, 2, 0, 0), baseSide(2, 2, 0, 0), baseSide(5, 3, 0, 0), baseSide(1, 4, 2, 0), baseSide(1, 4, -3, 0),
		baseSide(3, 3, 0, 2), baseSide(3, 4, 1, -5), baseSide(0, 0, -1, -1), autoSide(baseSide(4, 4, 1, 0), true, false),
		autoSide(baseSide(4, 4, 0, 1), false, true), autoSide(baseSide(4, 5, 0, 0), true, true),
		sideOf(impl.AlStretch, 3, 0, 0), sideOf(impl.AlStart, 7, -2, 1), sideOf(impl.AlEnd, 1, -2, 0), sideOf(impl.AlCenter, 4, 3, 2),
	}
	lines := 0
	for _, numbers := range listsOf(3, 0, len(kinds)-1) {
		var list []impl.Side
		for _, i := range numbers {
			list = append(list, kinds[i])
		}
		checkSides(t, list)
		lines++
	}
	if lines != 1+15+15*15+15*15*15 {
		t.Error(lines, "lines")
	}
}

// TestMixedSides has small and large numbers, and asks for every kind of line and of place to occur.
func TestMixedSides(t *testing.T) {
	r := rand.New(rand.NewSource(17))
	reached := map[string]int{}
	for i := range 20000 {
		list := anySides(r, []int{3, 10, 100, 5000, impl.MaxLen}[i%5])
		checkSides(t, list)
		for _, feature := range sideFeatures(list) {
			reached[feature]++
		}
		base, cross := impl.BaseOf(list), impl.CrossOf(list)
		for _, x := range list {
			// A line may also be longer or shorter than its items ask for.
			cross := cross + pick(r, 0, 0, 1, -1, r.Intn(20)-10)
			checkSide(t, x, cross, base)
			reached[placeKind(x, cross)]++
		}
	}
	features := []string{
		"AlBase with an auto margin", "all on the baseline", "some on the baseline", "none on the baseline",
		"a baseline of sign -1", "a baseline of sign 0", "a baseline of sign 1", "no cross size", "a cross size beyond MaxLen",
	}
	for n := range 13 {
		features = append(features, fmt.Sprintf("%d items", n))
	}
	for _, align := range everyAlign() {
		for _, x := range autoSides(sideOf(align, 20, 0, 0)) {
			features = append(features, placeKind(x, 10), placeKind(x, 20), placeKind(x, 30))
		}
	}
	for _, feature := range features {
		if reached[feature] < 100 {
			t.Errorf("%s: only %d times", feature, reached[feature])
		}
	}
}

// TestAlignedKeepsItsArguments looks at the spare capacity too.
func TestAlignedKeepsItsArguments(t *testing.T) {
	r := rand.New(rand.NewSource(71))
	lists := [][]impl.Side{nil, {fullSide()}, {baseSide(-1, 20, 0, 0), fullSide()}, slices.Repeat([]impl.Side{fullSide()}, 13), wrongSides()}
	for range 500 {
		lists = append(lists, anySides(r, 100))
	}
	for _, list := range lists {
		list = append(slices.Clone(list), fullSide(), sideOf(impl.AlEnd, 91, 92, 93))[:len(list)]
		before := slices.Clone(list[:cap(list)])
		base, cross := impl.BaseOf(list), impl.CrossOf(list)
		for _, x := range list {
			impl.PlaceAcross(x, cross, base)
			impl.OnBase(x)
			impl.Fills(x)
			impl.SideOk(x)
		}
		if againBase, again := impl.BaseOf(list), impl.CrossOf(list); againBase != base || again != cross {
			t.Errorf("%+v had the baseline %d and the cross size %d, and then %d and %d", list, base, cross, againBase, again)
		}
		if !slices.Equal(list[:cap(list)], before) {
			t.Errorf("%+v became %+v", before, list[:cap(list)])
		}
	}
}
