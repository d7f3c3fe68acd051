package tests

import (
	"fmt"
	"math"
	"math/rand"
	"slices"
	"testing"

	"loop.example/g00972/impl"
)

func TestLinesOf(t *testing.T) {
	checkBreakCases(t, []breakCase{
		{broken(0, 130, rigids(60, 60, 60)...), [][]int{{0, 1}, {2}}, 120},
		{broken(0, 130, rigids(60, 60, 60, 60)...), [][]int{{0, 1}, {2, 3}}, 120},
		{broken(0, 100, rigids(10, 20, 30)...), [][]int{{0, 1, 2}}, 60},
		{broken(0, 60, rigids(50, 20, 10, 40, 30, 20)...), [][]int{{0}, {1, 2}, {3}, {4, 5}}, 50},
		{broken(0, 60, rigids(30, 40, 20, 10, 50)...), [][]int{{0}, {1, 2}, {3, 4}}, 60},
		// An item does not go back to an earlier line where it would fit.
		{broken(0, 60, rigids(30, 50, 10, 20)...), [][]int{{0}, {1, 2}, {3}}, 60},
		{broken(0, 60, rigids(0, 0, 60, 0, 1, 0)...), [][]int{{0, 1, 2, 3}, {4, 5}}, 60},
		// The margins count.
		{broken(0, 60, withMargins(rigid(20, 0, -1), 3, 4), withMargins(rigid(20, 0, -1), 6, 7)), [][]int{{0, 1}}, 60},
		{broken(0, 60, withMargins(rigid(20, 0, -1), 4, 4), withMargins(rigid(20, 0, -1), 6, 7)), [][]int{{0}, {1}}, 33},
		{broken(0, 60, withMargins(rigid(20, 0, -1), 3, 4), withMargins(rigid(20, 0, -1), 6, 8)), [][]int{{0}, {1}}, 34},
		// The hypothetical sizes count, and not the Bases.
		{broken(0, 60, rigid(10, 50, -1), rigid(20, 0, -1)), [][]int{{0}, {1}}, 50},
		{broken(0, 60, rigid(20, 0, -1), rigid(10, 50, -1)), [][]int{{0}, {1}}, 50},
		{broken(0, 60, rigid(50, 0, 10), rigid(20, 0, -1)), [][]int{{0, 1}}, 30},
		{broken(0, 60, rigid(20, 0, -1), rigid(500, 0, 40)), [][]int{{0, 1}}, 60},
		{broken(0, 60, rigid(20, 0, -1), rigid(500, 41, 40)), [][]int{{0}, {1}}, 41},
		// Neither growing nor shrinking changes the lines.
		{broken(0, 60, times(3, growing(30, 0, -1, 9))...), [][]int{{0, 1}, {2}}, 60},
		{broken(0, 60, times(3, shrinking(40, 0, -1, 9))...), eachAlone(3), 40},
	})
}

func TestAnItemThatIsWiderThanTheLine(t *testing.T) {
	checkBreakCases(t, []breakCase{
		{broken(0, 30, rigids(50)...), [][]int{{0}}, 50},
		// First, in the middle, and last.
		{broken(0, 30, rigids(50, 10, 10)...), [][]int{{0}, {1, 2}}, 50},
		{broken(0, 30, rigids(10, 50, 10)...), [][]int{{0}, {1}, {2}}, 50},
		{broken(0, 30, rigids(10, 10, 50)...), [][]int{{0, 1}, {2}}, 50},
		{broken(0, 30, rigids(10, 10, 50, 10, 10)...), [][]int{{0, 1}, {2}, {3, 4}}, 50},
		// Several of them.
		{broken(0, 30, rigids(50, 70, 60)...), [][]int{{0}, {1}, {2}}, 70},
		{broken(0, 30, rigids(10, 50, 60, 10)...), [][]int{{0}, {1}, {2}, {3}}, 60},
		{broken(0, 30, times(12, rigid(31, 0, -1))...), eachAlone(12), 31},
		// An item of size 0 beside it.
		{broken(0, 30, rigids(0, 50, 0)...), [][]int{{0}, {1}, {2}}, 50},
		{broken(0, 30, rigids(0, 31, 0)...), [][]int{{0}, {1}, {2}}, 31},
		{broken(0, 30, rigids(0, 30, 0)...), [][]int{{0, 1, 2}}, 30},
		// By its margins, or by its Least.
		{broken(0, 30, append(rigids(0), withMargins(rigid(20, 0, -1), 5, 6), rigid(0, 0, -1))...), [][]int{{0}, {1}, {2}}, 31},
		{broken(0, 30, append(rigids(0), withMargins(rigid(20, 0, -1), 5, 5), rigid(0, 0, -1))...), [][]int{{0, 1, 2}}, 30},
		{broken(0, 30, append(rigids(0), rigid(5, 31, 9), rigid(0, 0, -1))...), [][]int{{0}, {1}, {2}}, 31},
		{broken(0, 0, rigids(impl.MaxLen, impl.MaxLen)...), [][]int{{0}, {1}}, impl.MaxLen},
	})
}

func TestALineThatIsFilledExactly(t *testing.T) {
	checkBreakCases(t, []breakCase{
		{broken(0, 30, rigids(10, 20)...), [][]int{{0, 1}}, 30},
		{broken(0, 29, rigids(10, 20)...), [][]int{{0}, {1}}, 20},
		{broken(0, 31, rigids(10, 20)...), [][]int{{0, 1}}, 30},
		{broken(0, 30, rigids(10, 21)...), [][]int{{0}, {1}}, 21},
		{broken(0, 30, rigids(10, 19)...), [][]int{{0, 1}}, 29},
		{broken(0, 30, rigids(10, 20, 1)...), [][]int{{0, 1}, {2}}, 30},
		{broken(0, 31, rigids(10, 20, 1)...), [][]int{{0, 1, 2}}, 31},
		{broken(0, 30, rigids(10, 20, 15, 15, 30, 5)...), [][]int{{0, 1}, {2, 3}, {4}, {5}}, 30},
		{broken(0, 29, rigids(10, 20, 15, 15, 30, 5)...), [][]int{{0}, {1}, {2}, {3}, {4}, {5}}, 30},
		{broken(0, 31, rigids(10, 20, 15, 15, 30, 5)...), [][]int{{0, 1}, {2, 3}, {4}, {5}}, 30},
		{broken(0, 35, rigids(10, 20, 15, 15, 30, 5)...), [][]int{{0, 1}, {2, 3}, {4, 5}}, 35},
		{broken(0, 30, rigids(30)...), [][]int{{0}}, 30},
		{broken(0, 29, rigids(30)...), [][]int{{0}}, 30},
		{broken(0, 120, times(12, rigid(10, 0, -1))...), [][]int{upTo(12)}, 120},
		{broken(0, 119, times(12, rigid(10, 0, -1))...), [][]int{upTo(11), {11}}, 110},
	})
}

func TestLinesWithoutWrapping(t *testing.T) {
	wide, long := rigids(50, 10, 70), []int{0, 1, 2}
	checkBreakCases(t, []breakCase{
		{broken(5, 30, wide...), [][]int{{0}, {1}, {2}}, 70},
		{unbroken(5, 30, wide...), [][]int{long}, 140},
		{unbroken(5, 140, wide...), [][]int{long}, 140},
		{unbroken(5, 0, wide...), [][]int{long}, 140},
		{unbroken(5, -1, wide...), [][]int{long}, 140},
		{unbroken(5, impl.MaxLen, wide...), [][]int{long}, 140},
		{unbroken(5, impl.MaxLen+1, wide...), [][]int{long}, 140},
		{unbroken(0, 30, times(12, rigid(10, 0, -1))...), [][]int{upTo(12)}, 120},
		{unbroken(0, 30, rigids(50)...), [][]int{{0}}, 50},
		{unbroken(0, 30), nil, 0},
	})
}

func TestRoomsOfLines(t *testing.T) {
	wide, long := rigids(50, 10, 70), []int{0, 1, 2}
	checkBreakCases(t, []breakCase{
		// A negative room is not limited.
		{broken(5, -1, wide...), [][]int{long}, 140},
		{broken(5, -2, wide...), [][]int{long}, 140},
		{broken(5, -impl.MaxLen, wide...), [][]int{long}, 140},
		{broken(5, math.MinInt, wide...), [][]int{long}, 140},
		// A room of 0 is.
		{broken(5, 0, wide...), eachAlone(3), 70},
		{broken(0, 0, rigids(0, 0)...), [][]int{{0, 1}}, 0},
		{broken(0, 0, rigids(0, 1)...), [][]int{{0}, {1}}, 1},
		{broken(0, 0, rigids(1, 0)...), [][]int{{0}, {1}}, 1},
		{broken(0, 0, rigids(0, 0, 1, 0, 0)...), [][]int{{0, 1}, {2}, {3, 4}}, 1},
		{broken(1, 0, rigids(0, 0)...), [][]int{{0}, {1}}, 0},
		{broken(0, 1, rigids(0, 1)...), [][]int{{0, 1}}, 1},
		// MaxLen, one less, one more.
		{broken(0, impl.MaxLen, rigids(impl.MaxLen, 0)...), [][]int{{0, 1}}, impl.MaxLen},
		{broken(0, impl.MaxLen, rigids(impl.MaxLen, 1)...), [][]int{{0}, {1}}, impl.MaxLen},
		{broken(0, impl.MaxLen-1, rigids(impl.MaxLen-1, 0, 1)...), [][]int{{0, 1}, {2}}, impl.MaxLen - 1},
		{broken(0, impl.MaxLen-1, rigids(impl.MaxLen, 0)...), [][]int{{0}, {1}}, impl.MaxLen},
		{broken(0, impl.MaxLen+1, rigids(impl.MaxLen, 1)...), [][]int{{0, 1}}, impl.MaxLen + 1},
		{broken(0, impl.MaxLen+1, rigids(impl.MaxLen, 2)...), [][]int{{0}, {1}}, impl.MaxLen},
		// A larger one is not clamped either.
		{broken(0, 2*impl.MaxLen, times(3, rigid(impl.MaxLen, 0, -1))...), [][]int{{0, 1}, {2}}, 2 * impl.MaxLen},
		{broken(0, math.MaxInt, times(12, rigid(impl.MaxLen, 0, -1))...), [][]int{upTo(12)}, 12 * impl.MaxLen},
	})
}

func TestGapsOfLines(t *testing.T) {
	three, four := rigids(10, 10, 10), rigids(10, 10, 10, 10)
	checkBreakCases(t, []breakCase{
		// It decides whether an item still fits.
		{broken(0, 30, three...), [][]int{{0, 1, 2}}, 30},
		{broken(1, 30, three...), [][]int{{0, 1}, {2}}, 21},
		{broken(5, 40, three...), [][]int{{0, 1, 2}}, 40},
		{broken(5, 39, three...), [][]int{{0, 1}, {2}}, 25},
		{broken(6, 40, three...), [][]int{{0, 1}, {2}}, 26},
		{broken(5, 25, three...), [][]int{{0, 1}, {2}}, 25},
		{broken(5, 24, three...), eachAlone(3), 10},
		// There is none at the ends of a line.
		{broken(5, 25, four...), [][]int{{0, 1}, {2, 3}}, 25},
		{broken(5, 10, four...), eachAlone(4), 10},
		{broken(impl.MaxLen, 10, four...), eachAlone(4), 10},
		{broken(5, 30, rigids(30, 0)...), [][]int{{0}, {1}}, 30},
		{broken(5, 35, rigids(30, 0)...), [][]int{{0, 1}}, 35},
		// One that is negative is added, too.
		{broken(-5, 20, three...), [][]int{{0, 1, 2}}, 20},
		{broken(-5, 19, three...), [][]int{{0, 1}, {2}}, 15},
		{broken(-10, 10, four...), [][]int{{0, 1, 2, 3}}, 10},
		{broken(-10, 9, four...), [][]int{{0}, {1}, {2}, {3}}, 10},
		{broken(-20, 5, four...), [][]int{{0, 1, 2, 3}}, 0},
		// So is one beyond MaxLen.
		{broken(impl.MaxLen, impl.MaxLen, rigids(0, 0, 0)...), [][]int{{0, 1}, {2}}, impl.MaxLen},
		{broken(impl.MaxLen+1, impl.MaxLen, rigids(0, 0, 0)...), eachAlone(3), 0},
		{broken(impl.MaxLen+1, impl.MaxLen+1, rigids(0, 0, 0)...), [][]int{{0, 1}, {2}}, impl.MaxLen + 1},
		{broken(math.MaxInt, math.MaxInt, rigids(0, 0)...), [][]int{{0, 1}}, math.MaxInt},
		{broken(math.MaxInt, math.MaxInt-1, rigids(0, 0)...), [][]int{{0}, {1}}, 0},
		{broken(math.MinInt, 0, rigids(10, 10)...), [][]int{{0, 1}}, 0},
		// OuterOf wraps around.
		{broken(math.MaxInt, 10, rigids(10, 10)...), [][]int{{0, 1}}, 0},
		{broken(math.MinInt, 10, rigids(4, 4, 3)...), [][]int{{0, 1}, {2}}, 3},
		{unbroken(-5, 0, three...), [][]int{{0, 1, 2}}, 20},
		{unbroken(math.MaxInt, 0, three...), [][]int{{0, 1, 2}}, 28},
	})
}

// TestNegativeMarginsOfLines has items with which a longer line is shorter.
func TestNegativeMarginsOfLines(t *testing.T) {
	wide, ten := rigid(50, 0, -1), rigid(10, 0, -1)
	before, behind := withMargins(ten, -40, 0), withMargins(ten, 0, -40)
	checkBreakCases(t, []breakCase{
		// An item after one that is wider than the line.
		{broken(0, 30, wide, before), [][]int{{0, 1}}, 20},
		{broken(0, 30, wide, behind), [][]int{{0, 1}}, 20},
		{broken(0, 20, wide, before), [][]int{{0, 1}}, 20},
		{broken(0, 19, wide, before), [][]int{{0}, {1}}, 50},
		{broken(0, 30, wide, before, ten, ten), [][]int{{0, 1, 2}, {3}}, 30},
		{broken(10, 30, wide, before), [][]int{{0, 1}}, 30},
		{broken(11, 30, wide, before), [][]int{{0}, {1}}, 50},
		// Not one that is too far behind.
		{broken(0, 30, wide, ten, before), [][]int{{0}, {1, 2}}, 50},
		{broken(0, 30, ten, wide, before, before), [][]int{{0}, {1, 2, 3}}, 10},
		{broken(0, 30, ten, ten, ten, ten, before), [][]int{{0, 1, 2}, {3, 4}}, 30},
		// The length of a line is the one of the whole line, also where a part of it is longer.
		{broken(0, 50, wide, behind, ten), [][]int{{0, 1, 2}}, 30},
		{broken(0, 50, wide, behind, ten, wide), [][]int{{0, 1, 2}, {3}}, 50},
		{unbroken(0, 0, wide, before, ten), [][]int{{0, 1, 2}}, 30},
		// An item that makes more room for those after it.
		{broken(0, 30, behind, wide), [][]int{{0, 1}}, 20},
		{broken(0, 30, behind, behind, wide, ten), [][]int{{0, 1, 2, 3}}, 0},
	})
}

func TestLinesWhoseOuterIsNegative(t *testing.T) {
	five := rigid(5, 0, -1)
	less := withMargins(five, -10, 0)
	checkBreakCases(t, []breakCase{
		{broken(0, 0, less), [][]int{{0}}, 0},
		{broken(0, 0, less, less), [][]int{{0, 1}}, 0},
		{broken(0, 0, less, five), [][]int{{0, 1}}, 0},
		{broken(0, 0, five, less), [][]int{{0, 1}}, 0},
		{broken(0, 0, five, five, less), [][]int{{0}, {1, 2}}, 5},
		{broken(0, 0, less, rigid(6, 0, -1)), [][]int{{0}, {1}}, 6},
		{broken(0, 30, less, rigid(50, 0, -1), less), [][]int{{0}, {1}, {2}}, 50},
		{broken(0, 30, less, rigid(36, 0, -1), less, less), [][]int{{0}, {1}, {2, 3}}, 36},
		{broken(0, 30, rigid(31, 0, -1), withMargins(five, -90, 0)), [][]int{{0, 1}}, 0},
		// All of several lines.
		{broken(impl.MaxLen, 0, less, less), [][]int{{0}, {1}}, 0},
		{broken(11, 0, less, less, less), [][]int{{0}, {1}, {2}}, 0},
		{unbroken(0, 0, less), [][]int{{0}}, 0},
		{unbroken(0, 0, less, less, five), [][]int{{0, 1, 2}}, 0},
		{unbroken(0, 0, withMargins(five, -impl.MaxLen, -impl.MaxLen)), [][]int{{0}}, 0},
		{broken(0, 0, times(12, withMargins(five, -impl.MaxLen, -impl.MaxLen))...), [][]int{upTo(12)}, 0},
		{unbroken(-20, 30, five, five), [][]int{{0, 1}}, 0},
	})
}

func TestNumberOfItemsOfLines(t *testing.T) {
	ten := rigid(10, 0, -1)
	for _, room := range edgeNumbers() {
		checkBreakCases(t, []breakCase{
			{broken(0, room), nil, 0},
			{unbroken(0, room), nil, 0},
			{broken(5, room), nil, 0},
			{broken(math.MinInt, room), nil, 0},
			{broken(5, room, ten), [][]int{{0}}, 10},
			{unbroken(5, room, ten), [][]int{{0}}, 10},
		})
	}
	checkBreakCases(t, []breakCase{
		{broken(0, 30, times(12, ten)...), [][]int{{0, 1, 2}, {3, 4, 5}, {6, 7, 8}, {9, 10, 11}}, 30},
		{broken(0, 10, times(12, ten)...), eachAlone(12), 10},
		{broken(0, 0, times(12, ten)...), eachAlone(12), 10},
		{broken(5, 100, times(12, ten)...), [][]int{{0, 1, 2, 3, 4, 5, 6}, {7, 8, 9, 10, 11}}, 100},
		{broken(0, 1000, times(12, ten)...), [][]int{upTo(12)}, 120},
		// One more, which is not valid.
		{broken(0, 30, times(13, ten)...), [][]int{upTo(13)}, 130},
		{broken(5, 0, times(13, ten)...), [][]int{upTo(13)}, 190},
		{broken(0, 30, times(100, ten)...), [][]int{upTo(100)}, 1000},
		{unbroken(0, 30, times(13, ten)...), [][]int{upTo(13)}, 130},
	})
	if list := impl.LinesOf([]impl.Item{}, 0, 10, true); len(list) != 0 {
		t.Error("LinesOf no items", list)
	}
}

// TestLinesOfItemsThatAreNotValid has one field at a limit and one beyond it, at each place.
func TestLinesOfItemsThatAreNotValid(t *testing.T) {
	for _, l := range itemLimits() {
		for _, n := range numbersNear(l) {
			for i := range 4 {
				b := broken(3, 20, withItemAt(rigids(10, 10, 10, 10), i, withItem(rigid(10, 0, -1), l.name, n))...)
				checkEachLine(t, b, checkLines(t, b))
				for _, inner := range []int{0, 30, 100} {
					checkLineSizes(t, b, inner)
				}
				if n >= l.least && n <= l.most {
					continue
				}
				if lines := b.lines(); !sameLines(lines, [][]int{{0, 1, 2, 3}}) {
					t.Errorf("LinesOf %v = %d, not one line", b, lines)
				}
				if sizes := b.sizes(100); !slices.Equal(sizes, wantHyps(b.items)) {
					t.Errorf("LineSizes of %v = %d, not the hypothetical sizes", b, sizes)
				}
			}
		}
	}
	checkBreakCases(t, []breakCase{
		{broken(0, 15, rigid(10, 0, -1), rigid(-1, 0, -1), rigid(10, 0, -1)), [][]int{{0, 1, 2}}, 20},
		{broken(5, 15, rigid(10, 0, -1), rigid(10, 0, -2), rigid(10, 0, -1)), [][]int{{0, 1, 2}}, 40},
		{broken(5, 15, rigid(impl.MaxLen+1, 0, -1), rigid(10, 0, -1)), [][]int{{0, 1}}, impl.MaxLen + 16},
		{broken(0, 15, rigid(10, 0, -1), growing(10, 0, -1, -1)), [][]int{{0, 1}}, 20},
		{broken(0, 15, rigid(10, 0, -1), shrinking(10, 0, -1, 1001)), [][]int{{0, 1}}, 20},
		{broken(0, 15, withMargins(rigid(10, 0, -1), -impl.MaxLen-1, 0), rigid(10, 0, -1)), [][]int{{0, 1}}, 0},
	})
}

func TestLineItems(t *testing.T) {
	list := []impl.Item{fullItem(), growing(1, 2, 3, 4), withMargins(rigid(9, 8, 7), 6, 5)}
	a, b, c := list[0], list[1], list[2]
	for _, k := range []struct {
		line []int
		want []impl.Item
	}{
		{nil, nil},
		{[]int{}, nil},
		{[]int{0}, []impl.Item{a}},
		{[]int{1}, []impl.Item{b}},
		{[]int{2}, []impl.Item{c}},
		{[]int{0, 1, 2}, []impl.Item{a, b, c}},
		{[]int{1, 2}, []impl.Item{b, c}},
		// In the order of the line.
		{[]int{2, 0, 1}, []impl.Item{c, a, b}},
		{[]int{2, 1, 0}, []impl.Item{c, b, a}},
		// Indexes that stand there twice.
		{[]int{0, 0}, []impl.Item{a, a}},
		{[]int{1, 1, 0, 1}, []impl.Item{b, b, a, b}},
		{many(2, 20), times(20, c)},
		// Indexes that do not exist.
		{[]int{-1}, nil},
		{[]int{3}, nil},
		{[]int{-1, 3, -1, 3}, nil},
		{[]int{-1, 0}, []impl.Item{a}},
		{[]int{0, -1}, []impl.Item{a}},
		{[]int{0, 3, 1}, []impl.Item{a, b}},
		{[]int{3, 2, 2, 4, -2, 0}, []impl.Item{c, c, a}},
		{[]int{math.MinInt, 2, math.MaxInt, 1, math.MinInt + 1, math.MaxInt - 1}, []impl.Item{c, b}},
		{edgeNumbers(), []impl.Item{a, b, c}},
	} {
		if got := impl.LineItems(list, k.line); !slices.Equal(got, k.want) {
			t.Errorf("LineItems of %d = %+v", k.line, got)
		}
	}
	// No item has an index in an empty list.
	for _, empty := range [][]impl.Item{nil, {}, list[:0]} {
		for _, i := range edgeNumbers() {
			if got := impl.LineItems(empty, []int{i, i}); len(got) != 0 {
				t.Errorf("LineItems of %d in no items = %+v", i, got)
			}
		}
	}
}

// TestLineItemsOfAnyItems has items that are not valid, or more than MaxItems, which are returned as they are.
func TestLineItemsOfAnyItems(t *testing.T) {
	for _, x := range endItems() {
		list := []impl.Item{fullItem(), x}
		if got := impl.LineItems(list, []int{1, 0, 2, 1}); !slices.Equal(got, []impl.Item{x, fullItem(), x}) {
			t.Errorf("LineItems of %+v = %+v", list, got)
		}
	}
	var list []impl.Item
	for i := range 40 {
		list = append(list, rigid(i, 0, -1))
	}
	if got := impl.LineItems(list, upTo(41)); !slices.Equal(got, list) {
		t.Errorf("LineItems of 40 items = %+v", got)
	}
	for _, i := range append(edgeNumbers(), 12, 13, 38, 39, 40, 41) {
		want := wantLineItems(list, []int{i})
		if got := impl.LineItems(list, []int{i}); !slices.Equal(got, want) || len(got) == 1 && got[0].Base != i {
			t.Errorf("LineItems of %d = %+v", i, got)
		}
	}
}

func TestLineSizes(t *testing.T) {
	up, down, three := growing(60, 0, -1, 1), shrinking(60, 0, -1, 1), rigids(60, 50, 40)
	for _, c := range []struct {
		breaking
		inner int
		want  []int
	}{
		{broken(0, 130, up, up, up), 130, []int{65, 65, 130}},
		{broken(0, 130, up, up, up), 200, []int{100, 100, 200}},
		{broken(0, 130, up, up, up), 100, []int{60, 60, 100}},
		{broken(0, 180, up, up, up), 240, []int{80, 80, 80}},
		{unbroken(0, 130, up, up, up), 240, []int{80, 80, 80}},
		{broken(0, -1, up, up, up), 240, []int{80, 80, 80}},
		{broken(0, 130, three...), 130, []int{60, 50, 40}},
		// An item that is wider than the line shrinks alone.
		{broken(0, 30, rigid(10, 0, -1), down, rigid(20, 0, -1)), 30, []int{10, 30, 20}},
		{broken(0, 30, rigid(10, 0, -1), shrinking(60, 45, -1, 1), rigid(20, 0, -1)), 30, []int{10, 45, 20}},
		{unbroken(0, 30, rigid(10, 0, -1), down, rigid(20, 0, -1)), 50, []int{10, 20, 20}},
		{broken(0, 100, down, down, down), 50, []int{50, 50, 50}},
		{broken(0, 120, down, down, down), 50, []int{25, 25, 50}},
		// One line shrinks, the other one grows.
		{broken(0, 130, times(3, item(60, 0, -1, 1, 1))...), 100, []int{50, 50, 100}},
		{broken(0, 130, append(times(3, item(60, 0, -1, 1, 1)), up)...), 100, []int{50, 50, 40, 60}},
		// The gaps are those of each line.
		{broken(10, 130, up, up, up), 130, []int{60, 60, 130}},
		{broken(10, 129, up, up, up), 130, []int{130, 130, 130}},
		{broken(10, 130, up, up, up, up), 150, []int{70, 70, 70, 70}},
		// The limits of an item leave the rest to its own line.
		{broken(0, 120, growing(60, 0, 70, 1), up, up, growing(60, 0, 61, 1)), 200, []int{70, 130, 139, 61}},
		// The lines do not depend on inner.
		{broken(0, 60, up, up), 0, []int{60, 60}},
		{broken(0, 60, down, down), 0, []int{0, 0}},
		{broken(0, 120, down, down), 1, []int{0, 1}},
		{broken(0, 60, up, up), impl.MaxLen, []int{impl.MaxLen, impl.MaxLen}},
		{broken(0, 120, up, up), impl.MaxLen, []int{impl.MaxLen / 2, impl.MaxLen / 2}},
		// An inner or a gap outside of the range.
		{broken(0, 60, up, up), -1, []int{60, 60}},
		{broken(0, 60, down, down), -1, []int{60, 60}},
		{broken(0, 60, up, up), impl.MaxLen + 1, []int{60, 60}},
		{broken(0, 60, up, up), math.MinInt, []int{60, 60}},
		{broken(0, 60, up, up), math.MaxInt, []int{60, 60}},
		{broken(-1, 60, up, up), 100, []int{60, 60}},
		{broken(impl.MaxLen+1, 60, up, up), 100, []int{60, 60}},
		{broken(impl.MaxLen, 60, up, up), 100, []int{100, 100}},
		{broken(0, 60, growing(60, 70, -1, 1), growing(60, 0, 40, 1), growing(60, 50, 40, 1)), -1, []int{70, 40, 50}},
		// Items that are not valid, or too many.
		{broken(0, 60, up, growing(60, 0, -1, -1), up), 100, []int{60, 60, 60}},
		{broken(0, 60, down, shrinking(60, 0, 50, 1001), down), 10, []int{60, 50, 60}},
		{broken(0, 60, times(13, up)...), 100, many(60, 13)},
		{broken(0, 60, times(12, up)...), 100, many(100, 12)},
		{broken(0, 60), 100, nil},
		{unbroken(0, 60), 100, nil},
	} {
		if got := c.sizes(c.inner); !slices.Equal(got, c.want) {
			t.Errorf("LineSizes of %v, inner %d = %d, not %d", c.breaking, c.inner, got, c.want)
		}
		checkLineSizes(t, c.breaking, c.inner)
	}
}

func TestLineOfItem(t *testing.T) {
	for _, c := range []struct {
		lines [][]int
		i     int
		want  int
	}{
		{[][]int{{0, 1}, {2}}, 0, 0},
		{[][]int{{0, 1}, {2}}, 1, 0},
		{[][]int{{0, 1}, {2}}, 2, 1},
		{[][]int{{0}, {1, 2}, {3}}, 2, 1},
		{[][]int{{0}, {1, 2}, {3}}, 3, 2},
		{[][]int{{3, 2}, {1, 0}}, 0, 1},
		{eachAlone(40), 39, 39},
		// An index on no line.
		{[][]int{{0, 1}, {2}}, 3, -1},
		{[][]int{{0, 1}, {2}}, -1, -1},
		{[][]int{{1}, {2}}, 0, -1},
		{[][]int{{0, 1}, {2}}, math.MinInt, -1},
		{[][]int{{0, 1}, {2}}, math.MaxInt, -1},
		// An index on two lines, or twice on one.
		{[][]int{{0}, {1, 0}}, 0, 0},
		{[][]int{{5}, {3}, {4, 3}, {3}}, 3, 1},
		{[][]int{{5}, {3, 3}}, 3, 1},
		{[][]int{{1, 2}, {2, 1}}, 1, 0},
		{[][]int{{1, 2}, {2, 1}}, 2, 0},
		// No lines, and empty lines.
		{nil, 0, -1},
		{[][]int{}, 0, -1},
		{[][]int{{}}, 0, -1},
		{[][]int{nil, {}}, 0, -1},
		{[][]int{{}, {0}}, 0, 1},
		{[][]int{nil, {}, {1}, {}, {0}}, 0, 4},
		{[][]int{{0}, {}}, 0, 0},
		// A number that is no index of an item is looked for as well.
		{[][]int{{0}, {-1}}, -1, 1},
		{[][]int{{0}, {-1}}, -2, -1},
		{[][]int{{-1}, {math.MaxInt}, {math.MinInt}}, math.MinInt, 2},
		{[][]int{{-1}, {math.MaxInt}, {math.MinInt}}, math.MaxInt, 1},
		{[][]int{{-1}, {math.MaxInt}, {math.MinInt}}, math.MaxInt - 1, -1},
	} {
		if got := impl.LineOfItem(c.lines, c.i); got != c.want || got != wantLineOf(c.lines, c.i) {
			t.Errorf("LineOfItem(%d, %d) = %d, not %d", c.lines, c.i, got, c.want)
		}
	}
	for _, n := range edgeNumbers() {
		for _, i := range edgeNumbers() {
			lines := [][]int{{5, n - 1}, nil, {n}, {i, i}}
			if got, want := impl.LineOfItem(lines, i), wantLineOf(lines, i); got != want {
				t.Errorf("LineOfItem(%d, %d) = %d, not %d", lines, i, got, want)
			}
		}
	}
}

func TestLinesOfTheEndsOfInt(t *testing.T) {
	numbers := []int{math.MinInt, math.MinInt + 1, math.MaxInt - 1, math.MaxInt, -1, 0, 20, impl.MaxLen, impl.MaxLen + 1}
	lists := [][]impl.Item{nil, rigids(10), rigids(10, 10, 0), times(3, item(10, 0, -1, 1, 1)), times(13, fullItem())}
	for _, x := range endItems() {
		lists = append(lists, []impl.Item{x}, []impl.Item{fullItem(), x}, []impl.Item{x, x, fullItem()})
	}
	for _, list := range lists {
		for _, gap := range numbers {
			for _, room := range numbers {
				for _, wraps := range bothOrders() {
					checkLines(t, breaking{list, gap, room, wraps})
				}
				b := broken(gap, room, list...)
				checkLineSizes(t, b, room)
				checkLineSizes(t, b, math.MinInt)
				checkLineSizes(t, b, math.MaxInt)
				checkLineSizes(t, b, 20)
			}
		}
	}
}

// TestEachItemIsOnOneLine goes through every list of up to four small items, every room around them and a few gaps.
func TestEachItemIsOnOneLine(t *testing.T) {
	sizes := append(rigids(0, 1, 2, 4), withMargins(rigid(1, 0, -1), -2, -1))
	lists := [][]impl.Item{nil}
	for at := 0; at < len(lists); at++ {
		list := lists[at]
		for _, x := range sizes {
			if len(list) < 4 {
				lists = append(lists, append(slices.Clone(list), x))
			}
		}
		for _, gap := range []int{0, 1, -1} {
			for room := -1; room <= 6; room++ {
				checkLines(t, broken(gap, room, list...))
			}
			checkLines(t, unbroken(gap, 2, list...))
		}
	}
	if len(lists) != 781 {
		t.Error(len(lists), "lists")
	}
}

// TestLinesOfMixedItems has small and large numbers, and asks for every kind of line to occur.
func TestLinesOfMixedItems(t *testing.T) {
	r := rand.New(rand.NewSource(14))
	reached := map[string]int{}
	for i := range 15000 {
		b := anyBreaking(r, []int{3, 10, 100, 5000, impl.MaxLen}[i%5])
		lines := checkLines(t, b)
		checkEachLine(t, b, lines)
		checkLineSizes(t, b, max(0, min(b.room, impl.MaxLen)))
		checkLineSizes(t, b, pick(r, r.Intn(impl.MaxLen+1), r.Intn(101), b.longest()))
		for _, feature := range featuresOf(b, lines) {
			reached[feature]++
		}
	}
	features := []string{"a line that is filled exactly", "a negative line", "a longer line that is shorter", "wraps false, 1 lines"}
	for n := range 6 {
		features = append(features, fmt.Sprintf("wraps true, %d lines", n))
	}
	for _, ends := range [][2]bool{{true, false}, {false, false}, {false, true}} {
		features = append(features, fmt.Sprintf("an item that is too wide, first %v, last %v", ends[0], ends[1]))
	}
	for _, feature := range features {
		if reached[feature] < 100 {
			t.Errorf("%s: only %d times", feature, reached[feature])
		}
	}
}

// TestAppendToALine overwrites nothing but the line itself.
func TestAppendToALine(t *testing.T) {
	for _, b := range []breaking{
		broken(0, 30, rigids(50, 10, 10, 10, 20, 10, 60)...), broken(0, 0, rigids(1, 2, 3)...),
		broken(0, 20, times(12, rigid(10, 0, -1))...), unbroken(0, 30, rigids(10, 20)...), broken(0, 9, times(13, rigid(10, 0, -1))...),
	} {
		for at := range b.lines() {
			lines := b.lines()
			want := cloneLines(lines)
			longer := append(lines[at], 77, 78, 79)
			if !sameLines(lines, want) || !slices.Equal(longer, append(slices.Clone(want[at]), 77, 78, 79)) {
				t.Errorf("the lines %d of %v became %d", want, b, lines)
			}
			clear(lines[at][:cap(lines[at])])
			want[at] = make([]int, len(want[at]))
			if !sameLines(lines, want) {
				t.Errorf("the lines %d of %v became %d", want, b, lines)
			}
			if more := append(lines, []int{99}); !sameLines(more[:len(want)], want) {
				t.Errorf("the lines %d of %v became %d", want, b, more)
			}
			checkLines(t, b)
		}
	}
}

// TestLinesShareNoMemory looks at the spare capacity too, and at the addresses of what is returned.
func TestLinesShareNoMemory(t *testing.T) {
	r := rand.New(rand.NewSource(41))
	breakings := []breaking{broken(0, 100), unbroken(0, 30, rigids(10, 20)...), broken(0, 0, rigids(10, 20)...), broken(0, 9, times(13, fullItem())...)}
	for range 300 {
		breakings = append(breakings, anyBreaking(r, 100))
	}
	for _, b := range breakings {
		b.items = roomyItems(b.items)
		before := slices.Clone(b.items[:cap(b.items)])
		first, second := b.lines(), b.lines()
		if sharesMemory(first, b.items, second) || sharesMemory(second, b.items) {
			t.Errorf("the lines of %v are shared memory", b)
		}
		sizes, others := b.sizes(50), b.sizes(50)
		if sharesMemory(sizes, b.items, others) {
			t.Errorf("the sizes of %v are shared memory", b)
		}
		b.longest()
		for _, line := range append(roomyLines(first), []int{1, -1, 0, 0, 50}) {
			checkItemsMemory(t, b.items, line)
		}
		if !slices.Equal(b.items[:cap(b.items)], before) {
			t.Errorf("%v became %+v", before, b.items[:cap(b.items)])
		}
		checkLineOfMemory(t, first, len(b.items))
		// What a result is used for later does not change another result.
		for _, line := range first {
			clear(line[:cap(line)])
		}
		clear(sizes[:cap(sizes)])
		if !sameLines(b.lines(), second) || !slices.Equal(b.sizes(50), others) {
			t.Errorf("the lines %d of %v became %d", second, b, b.lines())
		}
	}
}

func checkItemsMemory(t *testing.T, list []impl.Item, line []int) {
	t.Helper()
	before := slices.Clone(line[:cap(line)])
	first, second := impl.LineItems(list, line), impl.LineItems(list, line)
	if sharesMemory(first, list, line, second) {
		t.Errorf("the items of %d are shared memory", line)
	}
	clear(first[:cap(first)])
	if !slices.Equal(impl.LineItems(list, line), second) || !slices.Equal(line[:cap(line)], before) {
		t.Errorf("the items of %d in %+v became %+v", before, list, impl.LineItems(list, line))
	}
}

func checkLineOfMemory(t *testing.T, lines [][]int, n int) {
	t.Helper()
	lines = roomyLines(lines)
	before := wholeLines(lines)
	for i := -1; i <= n; i++ {
		impl.LineOfItem(lines, i)
	}
	// What stands in the spare capacity is on no line.
	for _, i := range []int{91, 92, 93, 94, 95} {
		if got := impl.LineOfItem(lines, i); got != -1 {
			t.Errorf("LineOfItem(%d, %d) = %d", lines, i, got)
		}
	}
	if !sameLines(wholeLines(lines), before) {
		t.Errorf("%d became %d", before, wholeLines(lines))
	}
}
