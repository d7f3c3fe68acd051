package tests

import (
	"fmt"
	"math"
	"math/rand"
	"slices"
	"testing"

	"loop.example/g00972/impl"
)

func TestStretchLines(t *testing.T) {
	for _, c := range []struct {
		stacking
		want []int
	}{
		{stacked(impl.CtStretch, 0, 101, 10, 20), []int{45, 56}},
		{stacked(impl.CtStretch, 0, 100, 10, 20), []int{45, 55}},
		{stacked(impl.CtStretch, 5, 100, 10, 20), []int{42, 53}},
		{stacked(impl.CtStretch, 5, 101, 10, 20), []int{43, 53}},
		{stacked(impl.CtStretch, 0, 100, 10, 20, 30), []int{23, 33, 44}},
		{stacked(impl.CtStretch, 0, 101, 10, 20, 30), []int{23, 34, 44}},
		{stacked(impl.CtStretch, 0, 102, 10, 20, 30), []int{24, 34, 44}},
		{stacked(impl.CtStretch, 10, 102, 10, 20, 30), []int{17, 27, 38}},
		{stacked(impl.CtStretch, 0, 7, 0, 0, 0, 0), []int{1, 2, 2, 2}},
		{stacked(impl.CtStretch, 0, 6, 0, 0, 0, 0), []int{1, 2, 1, 2}},
		// Equal shares are added, so that lines of different sizes stay different.
		{stacked(impl.CtStretch, 0, 60, 50, 0), []int{55, 5}},
		{stacked(impl.CtStretch, 0, 60, 0, 50), []int{5, 55}},
		// A gap is between two lines, and not at the ends.
		{stacked(impl.CtStretch, 30, 60, 0, 0, 0), []int{0, 0, 0}},
		{stacked(impl.CtStretch, 30, 90, 0, 0, 0), []int{10, 10, 10}},
		{stacked(impl.CtStretch, 100, 100, 0, 0), []int{0, 0}},
		// One line takes all of the space.
		{stacked(impl.CtStretch, 0, 100, 10), []int{100}},
		{stacked(impl.CtStretch, 100, 100, 10), []int{100}},
		{stacked(impl.CtStretch, impl.MaxLen, 100, 0), []int{100}},
		// There is nothing to distribute.
		{stacked(impl.CtStretch, 0, 30, 10, 20), []int{10, 20}},
		{stacked(impl.CtStretch, 5, 30, 10, 20), []int{10, 20}},
		{stacked(impl.CtStretch, 5, 35, 10, 20), []int{10, 20}},
		{stacked(impl.CtStretch, 0, 0, 10, 20), []int{10, 20}},
		{stacked(impl.CtStretch, 0, 29, 10, 20), []int{10, 20}},
		{stacked(impl.CtStretch, 0, 31, 10, 20), []int{10, 21}},
		{stacked(impl.CtStretch, 5, 36, 10, 20), []int{10, 21}},
		{stacked(impl.CtStretch, 0, 100), nil},
	} {
		if got := c.stretched(); !slices.Equal(got, c.want) {
			t.Errorf("StretchLines %v = %d, not %d", c.stacking, got, c.want)
		}
		checkStacking(t, c.stacking)
		// Only one content stretches the lines.
		for _, content := range append(everyContent()[1:], otherContent()...) {
			if got := c.with(content).stretched(); !slices.Equal(got, c.crosses) {
				t.Errorf("StretchLines %v = %d, not as they were", c.with(content), got)
			}
		}
	}
}

func TestPlaceLines(t *testing.T) {
	two, three := []int{10, 20}, []int{10, 30, 20}
	checkStackCases(t, []stackCase{
		{stacked(impl.CtStart, 0, 100, 10, 20), two, []int{0, 10}},
		{stacked(impl.CtEnd, 0, 100, 10, 20), two, []int{70, 80}},
		{stacked(impl.CtCenter, 0, 100, 10, 20), two, []int{35, 45}},
		{stacked(impl.CtBetween, 0, 100, 10, 20), two, []int{0, 80}},
		{stacked(impl.CtAround, 0, 100, 10, 20), two, []int{17, 62}},
		{stacked(impl.CtStart, 0, 100, 10, 30, 20), three, []int{0, 10, 40}},
		{stacked(impl.CtEnd, 0, 100, 10, 30, 20), three, []int{40, 50, 80}},
		{stacked(impl.CtCenter, 0, 100, 10, 30, 20), three, []int{20, 30, 60}},
		{stacked(impl.CtBetween, 0, 100, 10, 30, 20), three, []int{0, 30, 80}},
		{stacked(impl.CtAround, 0, 100, 10, 30, 20), three, []int{6, 30, 73}},
		// A gap is between two lines, and not at the ends.
		{stacked(impl.CtStart, 5, 100, 10, 20), two, []int{0, 15}},
		{stacked(impl.CtEnd, 5, 100, 10, 20), two, []int{65, 80}},
		{stacked(impl.CtCenter, 5, 100, 10, 20), two, []int{32, 47}},
		{stacked(impl.CtBetween, 5, 100, 10, 20), two, []int{0, 80}},
		{stacked(impl.CtAround, 5, 100, 10, 20), two, []int{16, 63}},
		{stacked(impl.CtStart, 10, 100, 10, 30, 20), three, []int{0, 20, 60}},
		{stacked(impl.CtEnd, 10, 100, 10, 30, 20), three, []int{20, 40, 80}},
		{stacked(impl.CtCenter, 10, 100, 10, 30, 20), three, []int{10, 30, 70}},
		{stacked(impl.CtBetween, 10, 100, 10, 30, 20), three, []int{0, 30, 80}},
		{stacked(impl.CtAround, 10, 100, 10, 30, 20), three, []int{3, 30, 76}},
		// Lines that are not stretched yet begin at the start, with nothing between them.
		{stacked(impl.CtStretch, 0, 100, 10, 20), []int{45, 55}, []int{0, 10}},
		{stacked(impl.CtStretch, 5, 100, 10, 30, 20), []int{20, 40, 30}, []int{0, 15, 50}},
		{stacked(impl.CtStretch, 0, 100, 45, 55), []int{45, 55}, []int{0, 45}},
		// A cross size of 0.
		{stacked(impl.CtBetween, 0, 30, 0, 10, 0), []int{0, 10, 0}, []int{0, 10, 30}},
		{stacked(impl.CtAround, 0, 40, 0, 0), []int{0, 0}, []int{10, 30}},
		{stacked(impl.CtEnd, 0, 30, 0, 0), []int{0, 0}, []int{30, 30}},
		{stacked(impl.CtEnd, 0, 0, 0), []int{0}, []int{0}},
	})
}

// TestSmallFreeSpaceAcross has a free space that cannot be divided, so that FloorDiv and Evenly round.
func TestSmallFreeSpaceAcross(t *testing.T) {
	for _, c := range []struct {
		inner int
		sizes []int
		// The places of the pair in the order of content, from CtStretch to CtAround.
		want [6][]int
	}{
		{37, []int{20, 20}, [6][]int{{0, 20}, {0, 20}, {-3, 17}, {-2, 18}, {0, 20}, {-2, 18}}},
		{38, []int{20, 20}, [6][]int{{0, 20}, {0, 20}, {-2, 18}, {-1, 19}, {0, 20}, {-1, 19}}},
		{39, []int{20, 20}, [6][]int{{0, 20}, {0, 20}, {-1, 19}, {-1, 19}, {0, 20}, {-1, 19}}},
		{40, []int{20, 20}, [6][]int{{0, 20}, {0, 20}, {0, 20}, {0, 20}, {0, 20}, {0, 20}}},
		{41, []int{20, 21}, [6][]int{{0, 20}, {0, 20}, {1, 21}, {0, 20}, {0, 21}, {0, 20}}},
		{42, []int{21, 21}, [6][]int{{0, 20}, {0, 20}, {2, 22}, {1, 21}, {0, 22}, {0, 21}}},
		{43, []int{21, 22}, [6][]int{{0, 20}, {0, 20}, {3, 23}, {1, 21}, {0, 23}, {0, 22}}},
		{44, []int{22, 22}, [6][]int{{0, 20}, {0, 20}, {4, 24}, {2, 22}, {0, 24}, {1, 23}}},
		{45, []int{22, 23}, [6][]int{{0, 20}, {0, 20}, {5, 25}, {2, 22}, {0, 25}, {1, 23}}},
	} {
		for at, want := range c.want {
			sizes := []int{20, 20}
			if at+1 == impl.CtStretch {
				sizes = c.sizes
			}
			checkStackCases(t, []stackCase{{stacked(at+1, 0, c.inner, 20, 20), sizes, want}})
		}
	}
	ten := []int{10, 10, 10}
	checkStackCases(t, []stackCase{
		{stacked(impl.CtStretch, 0, 31, 10, 10, 10), []int{10, 10, 11}, []int{0, 10, 20}},
		{stacked(impl.CtStretch, 0, 32, 10, 10, 10), []int{10, 11, 11}, []int{0, 10, 20}},
		{stacked(impl.CtStretch, 0, 35, 10, 10, 10), []int{11, 12, 12}, []int{0, 10, 20}},
		{stacked(impl.CtCenter, 0, 35, 10, 10, 10), ten, []int{2, 12, 22}},
		{stacked(impl.CtBetween, 0, 35, 10, 10, 10), ten, []int{0, 12, 25}},
		{stacked(impl.CtAround, 0, 35, 10, 10, 10), ten, []int{0, 12, 24}},
		{stacked(impl.CtBetween, 0, 31, 10, 10, 10), ten, []int{0, 10, 21}},
		{stacked(impl.CtAround, 0, 31, 10, 10, 10), ten, []int{0, 10, 20}},
		{stacked(impl.CtBetween, 0, 29, 10, 10, 10), ten, []int{0, 10, 20}},
		{stacked(impl.CtAround, 0, 29, 10, 10, 10), ten, []int{-1, 9, 19}},
	})
}

func TestLinesThatExceedTheSpace(t *testing.T) {
	for _, c := range []struct {
		gap, inner int
		crosses    []int
		// The places in the order of content, from CtStretch to CtAround.
		want [6][]int
	}{
		{0, 50, []int{30, 30}, [6][]int{{0, 30}, {0, 30}, {-10, 20}, {-5, 25}, {0, 30}, {-5, 25}}},
		{0, 49, []int{30, 30}, [6][]int{{0, 30}, {0, 30}, {-11, 19}, {-6, 24}, {0, 30}, {-6, 24}}},
		{0, 59, []int{30, 30}, [6][]int{{0, 30}, {0, 30}, {-1, 29}, {-1, 29}, {0, 30}, {-1, 29}}},
		{0, 0, []int{10, 30, 20}, [6][]int{{0, 10, 40}, {0, 10, 40}, {-60, -50, -20}, {-30, -20, 10}, {0, 10, 40}, {-30, -20, 10}}},
		// The lines have enough space, but the gaps have not.
		{20, 50, []int{20, 20}, [6][]int{{0, 40}, {0, 40}, {-10, 30}, {-5, 35}, {0, 40}, {-5, 35}}},
		{7, 0, []int{0, 0, 0}, [6][]int{{0, 7, 14}, {0, 7, 14}, {-14, -7, 0}, {-7, 0, 7}, {0, 7, 14}, {-7, 0, 7}}},
		{7, 50, []int{80}, [6][]int{{0}, {0}, {-30}, {-15}, {0}, {-15}}},
		{7, 49, []int{80}, [6][]int{{0}, {0}, {-31}, {-16}, {0}, {-16}}},
	} {
		for at, want := range c.want {
			// None of them is shrunk.
			checkStackCases(t, []stackCase{{stacked(at+1, c.gap, c.inner, c.crosses...), c.crosses, want}})
		}
		for _, content := range otherContent() {
			checkStackCases(t, []stackCase{{stacked(content, c.gap, c.inner, c.crosses...), c.crosses, c.want[impl.CtStart-1]}})
		}
	}
}

func TestOneLine(t *testing.T) {
	for _, c := range []struct{ inner, size, end, center, around int }{
		{100, 100, 80, 40, 40},
		{101, 101, 81, 40, 40},
		{22, 22, 2, 1, 1},
		{21, 21, 1, 0, 0},
		{20, 20, 0, 0, 0},
		{19, 20, -1, -1, -1},
		{18, 20, -2, -1, -1},
		{17, 20, -3, -2, -2},
		{0, 20, -20, -10, -10},
	} {
		// Nothing is between two lines, so that a gap does not count.
		for _, gap := range []int{0, 7, impl.MaxLen} {
			checkStackCases(t, []stackCase{
				{stacked(impl.CtStretch, gap, c.inner, 20), []int{c.size}, []int{0}},
				{stacked(impl.CtStart, gap, c.inner, 20), []int{20}, []int{0}},
				{stacked(impl.CtEnd, gap, c.inner, 20), []int{20}, []int{c.end}},
				{stacked(impl.CtCenter, gap, c.inner, 20), []int{20}, []int{c.center}},
				{stacked(impl.CtBetween, gap, c.inner, 20), []int{20}, []int{0}},
				{stacked(impl.CtAround, gap, c.inner, 20), []int{20}, []int{c.around}},
			})
		}
	}
}

func TestNumberOfLines(t *testing.T) {
	ten := many(10, 12)
	checkStackCases(t, []stackCase{
		{stacked(impl.CtStretch, 0, 240, ten...), many(20, 12), []int{0, 10, 20, 30, 40, 50, 60, 70, 80, 90, 100, 110}},
		{stacked(impl.CtStretch, 10, 230, ten...), ten, []int{0, 20, 40, 60, 80, 100, 120, 140, 160, 180, 200, 220}},
		{stacked(impl.CtStretch, 10, 243, ten...), append(many(11, 11), 12), []int{0, 20, 40, 60, 80, 100, 120, 140, 160, 180, 200, 220}},
		{stacked(impl.CtEnd, 0, 240, ten...), ten, []int{120, 130, 140, 150, 160, 170, 180, 190, 200, 210, 220, 230}},
		{stacked(impl.CtBetween, 0, 230, ten...), ten, []int{0, 20, 40, 60, 80, 100, 120, 140, 160, 180, 200, 220}},
		{stacked(impl.CtAround, 0, 240, ten...), ten, []int{5, 25, 45, 65, 85, 105, 125, 145, 165, 185, 205, 225}},
	})
	for _, content := range append(everyContent(), 0, 7) {
		for _, inner := range []int{0, 50, 120, 500} {
			for n := range 13 {
				s := stacked(content, 1, inner, many(10, n)...)
				if sizes, places := checkStacking(t, s); len(sizes) != n || len(places) != n {
					t.Errorf("%v has the sizes %d and the places %d", s, sizes, places)
				}
			}
			// One line more than there may be, and many more.
			for _, n := range []int{13, 14, 24, 25, 63, 64, 65, 1000} {
				checkRejected(t, stacked(content, 1, inner, many(10, n)...))
				checkRejected(t, stacked(content, 0, inner, many(0, n)...))
			}
		}
	}
}

func TestNoLines(t *testing.T) {
	for _, content := range append(everyContent(), otherContent()...) {
		for _, crosses := range [][]int{nil, {}} {
			for _, gap := range []int{0, 7, impl.MaxLen} {
				for _, inner := range []int{0, 1, 100, impl.MaxLen} {
					checkStackCases(t, []stackCase{{stacked(content, gap, inner, crosses...), nil, nil}})
				}
			}
			// A gap and an inner count even where there is no line.
			for _, n := range []int{-1, impl.MaxLen + 1, math.MinInt, math.MaxInt} {
				checkRejected(t, stacked(content, n, 100, crosses...))
				checkRejected(t, stacked(content, 0, n, crosses...))
			}
		}
	}
}

func TestContentThatDoesNotExist(t *testing.T) {
	for _, content := range append(otherContent(), impl.CtStart) {
		checkStackCases(t, []stackCase{
			{stacked(content, 5, 100, 20, 30), []int{20, 30}, []int{0, 25}},
			{stacked(content, 5, 56, 20, 30), []int{20, 30}, []int{0, 25}},
			{stacked(content, 5, 55, 20, 30), []int{20, 30}, []int{0, 25}},
			{stacked(content, 5, 54, 20, 30), []int{20, 30}, []int{0, 25}},
			{stacked(content, 5, 0, 20, 30), []int{20, 30}, []int{0, 25}},
			{stacked(content, 5, 100, 20), []int{20}, []int{0}},
			{stacked(content, 5, 100), nil, nil},
		})
	}
}

// TestLimitsAcross has a cross size, a gap and an inner at their limits and beyond.
func TestLimitsAcross(t *testing.T) {
	half, most := impl.MaxLen/2, impl.MaxLen
	none, full := []int{0, 0}, []int{most, most}
	checkStackCases(t, []stackCase{
		{stacked(impl.CtStretch, 0, 0, 0, 0), none, none},
		{stacked(impl.CtStretch, 0, most, 0, 0), []int{half, half}, none},
		{stacked(impl.CtStretch, 0, most, 0), []int{most}, []int{0}},
		{stacked(impl.CtStretch, 0, most, most-1), []int{most}, []int{0}},
		{stacked(impl.CtStretch, 0, most, most), []int{most}, []int{0}},
		{stacked(impl.CtStretch, most, most, 0, 0), none, []int{0, most}},
		{stacked(impl.CtStretch, most-1, most, 0, 0), []int{0, 1}, []int{0, most - 1}},
		{stacked(impl.CtStretch, 0, most, 0, 0, 0), []int{most / 3, most / 3, most/3 + 1}, []int{0, 0, 0}},
		{stacked(impl.CtEnd, 0, most, 0, 0), none, []int{most, most}},
		{stacked(impl.CtCenter, 0, most, 0, 0), none, []int{half, half}},
		{stacked(impl.CtBetween, 0, most, 0, 0), none, []int{0, most}},
		{stacked(impl.CtAround, 0, most, 0, 0), none, []int{most / 4, 3 * most / 4}},
		{stacked(impl.CtStart, most, 0, 0, 0), none, []int{0, most}},
		{stacked(impl.CtEnd, most, most, 0, 0), none, []int{0, most}},
		{stacked(impl.CtStart, most, most, most, most), full, []int{0, 2 * most}},
	})
	for _, n := range append(edgeNumbers(), lengthNumbers()...) {
		for _, content := range append(everyContent(), 0, 7) {
			for _, s := range []stacking{
				stacked(content, n, 100, 10, 10),
				stacked(content, n, 100, 10),
				stacked(content, n, 100),
				stacked(content, 0, n, 10, 10),
				stacked(content, 0, n),
				stacked(content, 0, 100, n),
				stacked(content, 0, 100, n, 10, 10),
				stacked(content, 0, 100, 10, n, 10),
				stacked(content, 0, 100, 10, 10, n),
			} {
				if n >= 0 && n <= 1048576 {
					checkStacking(t, s)
				} else {
					checkRejected(t, s)
				}
			}
		}
	}
}

// TestFreeSpaceAcrossBeyondTheLimits has a free space that is clamped. It cannot be more than MaxLen, as no inner is.
func TestFreeSpaceAcrossBeyondTheLimits(t *testing.T) {
	half, most := impl.MaxLen/2, impl.MaxLen
	for _, c := range []struct {
		gap, inner int
		crosses    []int
		// The places in the order of content, from CtStretch to CtAround.
		want [6][]int
	}{
		// Exactly -MaxLen, one more, and one less.
		{0, 0, []int{most}, [6][]int{{0}, {0}, {-most}, {-half}, {0}, {-half}}},
		{0, 1, []int{most}, [6][]int{{0}, {0}, {1 - most}, {-half}, {0}, {-half}}},
		{0, 2, []int{most}, [6][]int{{0}, {0}, {2 - most}, {1 - half}, {0}, {1 - half}}},
		{0, 0, []int{1, most}, [6][]int{{0, 1}, {0, 1}, {-most, 1 - most}, {-half, 1 - half}, {0, 1}, {-half, 1 - half}}},
		{0, 1, []int{1, most}, [6][]int{{0, 1}, {0, 1}, {-most, 1 - most}, {-half, 1 - half}, {0, 1}, {-half, 1 - half}}},
		{1, 0, []int{most, 0}, [6][]int{{0, most + 1}, {0, most + 1}, {-most, 1}, {-half, half + 1}, {0, most + 1}, {-half, half + 1}}},
		// Three times as much, where half of the lines is before the space.
		{most, 0, []int{most, most}, [6][]int{{0, 2 * most}, {0, 2 * most}, {-most, most}, {-half, 2*most - half}, {0, 2 * most}, {-half, 2*most - half}}},
		// Exactly MaxLen.
		{0, most, []int{0}, [6][]int{{0}, {0}, {most}, {half}, {0}, {half}}},
	} {
		for at, want := range c.want {
			sizes := c.crosses
			if at+1 == impl.CtStretch && c.inner == most {
				sizes = []int{most}
			}
			checkStackCases(t, []stackCase{{stacked(at+1, c.gap, c.inner, c.crosses...), sizes, want}})
		}
	}
	for _, content := range append(everyContent(), 0, 7) {
		for n := range 13 {
			checkStacking(t, stacked(content, most, 0, many(most, n)...))
			checkStacking(t, stacked(content, most, most, many(most, n)...))
			checkStacking(t, stacked(content, 0, most, many(0, n)...))
		}
	}
}

func TestCrossTotal(t *testing.T) {
	most := impl.MaxLen
	for _, c := range []struct {
		crosses   []int
		gap, want int
	}{
		{[]int{10, 20}, 5, 35},
		{[]int{10, 20}, 0, 30},
		{[]int{10, 20, 30}, 5, 70},
		{[]int{10}, 5, 10},
		{[]int{0}, 5, 0},
		{[]int{0, 0}, 5, 5},
		// There is no gap where there is no line.
		{nil, 5, 0},
		{[]int{}, 5, 0},
		{nil, -5, 0},
		{nil, math.MinInt, 0},
		{nil, math.MaxInt, 0},
		{[]int{7}, math.MinInt, 7},
		{[]int{7}, math.MaxInt, 7},
		{many(10, 12), 1, 131},
		{many(10, 13), 1, 142},
		{many(1, 100), 2, 298},
		// Each cross size is clamped, and neither a gap nor the total.
		{[]int{-10, 20}, 5, 15},
		{[]int{10, 20}, -5, 25},
		{[]int{10, 20}, -50, -20},
		{[]int{most, most}, most, 3 * most},
		{[]int{most + 1, -most - 1, 4}, 0, 4},
		{[]int{most + 1}, 0, most},
		{[]int{-most - 1}, 0, -most},
		{[]int{math.MaxInt, 1}, 1, most + 2},
		{[]int{math.MinInt, 1}, 1, 2 - most},
		{[]int{math.MinInt, math.MaxInt}, 3, 3},
		{[]int{0, 0}, 5 * most, 5 * most},
		{[]int{0, 0}, math.MaxInt, math.MaxInt},
		{[]int{0, 0}, math.MinInt, math.MinInt},
		// It wraps around.
		{[]int{0, 1}, math.MaxInt, math.MinInt},
		{[]int{0, -1}, math.MinInt, math.MaxInt},
		{[]int{0, 0, 0}, math.MaxInt, -2},
		{[]int{0, 0, 0}, math.MinInt, 0},
		{[]int{5, 0, 0, 0}, math.MaxInt, math.MinInt + 2},
	} {
		if got := impl.CrossTotal(c.crosses, c.gap); got != c.want || got != wantCrossTotal(c.crosses, c.gap) {
			t.Errorf("CrossTotal(%d, %d) = %d, not %d", c.crosses, c.gap, got, c.want)
		}
	}
	for _, gap := range edgeNumbers() {
		for _, n := range edgeNumbers() {
			for _, crosses := range [][]int{nil, {n}, {n, 10}, {10, n}, {n, n}, {1, n, 3}, many(n, 12), many(n, 13)} {
				if got, want := impl.CrossTotal(crosses, gap), wantCrossTotal(crosses, gap); got != want {
					t.Errorf("CrossTotal(%d, %d) = %d, not %d", crosses, gap, got, want)
				}
			}
		}
	}
}

func TestAcrossOk(t *testing.T) {
	most := impl.MaxLen
	for _, c := range []struct {
		crosses    []int
		gap, inner int
		want       bool
	}{
		{nil, 0, 0, true},
		{[]int{}, most, most, true},
		{[]int{1}, 0, 5, true},
		{[]int{0}, 0, 0, true},
		{[]int{10, 20}, 3, 5, true},
		{[]int{most, most}, most, most, true},
		{many(most, 12), most, 0, true},
		{many(0, 12), 0, 0, true},
		{many(0, 13), 0, 0, false},
		{many(1, 64), 0, 100, false},
		{many(1, 1000), 0, 100, false},
		{[]int{-1}, 0, 5, false},
		{[]int{most + 1}, 0, 5, false},
		{[]int{1, -1}, 0, 5, false},
		{[]int{-1, 1}, 0, 5, false},
		{[]int{1, 2, most + 1}, 0, 5, false},
		{append(many(1, 11), -1), 0, 5, false},
		{append(many(1, 11), most+1), 0, 5, false},
		{[]int{1}, -1, 5, false},
		{[]int{1}, most + 1, 5, false},
		{[]int{1}, 0, -1, false},
		{[]int{1}, 0, most + 1, false},
		{nil, -1, 0, false},
		{nil, most + 1, 0, false},
		{nil, 0, -1, false},
		{nil, 0, most + 1, false},
		{nil, math.MinInt, 0, false},
		{nil, 0, math.MaxInt, false},
		{[]int{math.MinInt}, 0, 0, false},
		{[]int{math.MaxInt}, 0, 0, false},
		{[]int{1<<32 + 1}, 0, 0, false},
	} {
		got := impl.AcrossOk(c.crosses, c.gap, c.inner)
		if got != c.want || got != wantAcross(stacked(0, c.gap, c.inner, c.crosses...)) {
			t.Errorf("AcrossOk(%d, %d, %d) = %t", c.crosses, c.gap, c.inner, got)
		}
	}
}

func TestAcrossTheEndsOfInt(t *testing.T) {
	numbers := []int{math.MinInt, math.MinInt + 1, math.MaxInt - 1, math.MaxInt, -1, 0, 20, impl.MaxLen, impl.MaxLen + 1}
	for i, gap := range numbers {
		for j, inner := range numbers {
			for k, n := range numbers {
				for at, crosses := range [][]int{nil, {n}, {n, 20}, {20, n}, {n, n}, {1, n, 3}, many(n, 12), many(n, 13)} {
					content := choiceNumbers()[(i+j+k+at)%len(choiceNumbers())]
					checkStacking(t, stacked(content, gap, inner, crosses...))
					checkStacking(t, stacked(impl.CtStretch, gap, inner, crosses...))
					checkStacking(t, stacked(impl.CtAround, gap, inner, crosses...))
				}
			}
		}
	}
	for _, content := range choiceNumbers() {
		for _, n := range numbers {
			checkStacking(t, stacked(content, 1, n, 10, 20))
			checkStacking(t, stacked(content, n, 20, 10, 20))
			checkStacking(t, stacked(content, 1, 100, n, 20))
		}
	}
}

// TestStretchedLinesFillTheSpace goes through every list of up to four small lines, every content and every inner around them.
func TestStretchedLinesFillTheSpace(t *testing.T) {
	lists := [][]int{nil}
	for at := 0; at < len(lists); at++ {
		list := lists[at]
		for _, size := range []int{0, 1, 2, 5} {
			if len(list) < 4 {
				lists = append(lists, append(slices.Clone(list), size))
			}
		}
		for content := 0; content <= 7; content++ {
			for gap := range 3 {
				for inner := range wantCrossTotal(list, gap) + 10 {
					checkStacking(t, stacked(content, gap, inner, list...))
				}
			}
		}
	}
	if len(lists) != 341 {
		t.Error(len(lists), "lists")
	}
}

// TestEachFreeSpaceAcross has every number of lines, with a free space that goes from less than nothing to several times their number.
func TestEachFreeSpaceAcross(t *testing.T) {
	for n := 1; n <= 12; n++ {
		for inner := 0; inner <= 6*n+30; inner++ {
			for _, content := range everyContent() {
				checkStacking(t, stacked(content, 1, inner, upTo(n)...))
				checkStacking(t, stacked(content, 0, inner, many(2, n)...))
			}
		}
	}
}

// TestLinesArePlacedLikeItems compares lines with items that have the same sizes and no margins.
func TestLinesArePlacedLikeItems(t *testing.T) {
	r := rand.New(rand.NewSource(61))
	justifications := map[int]int{
		impl.CtEnd: impl.JsEnd, impl.CtCenter: impl.JsCenter, impl.CtBetween: impl.JsBetween, impl.CtAround: impl.JsAround,
	}
	for i := range 5000 {
		s := anyStacking(r, []int{3, 100, 5000, impl.MaxLen}[i%4])
		justify, found := justifications[s.content]
		if !found {
			justify = impl.JsStart
		}
		want := impl.PlacesAlong(rigids(s.crosses...), s.crosses, s.gap, s.inner, justify)
		if s.gap > impl.MaxLen || len(want) != len(s.crosses) {
			t.Errorf("%v is not valid", s)
		}
		if got := s.places(); !slices.Equal(got, want) {
			t.Errorf("PlaceLines %v = %d, not %d like items", s, got, want)
		}
	}
}

// TestMixedLines has small and large numbers, and asks for every kind of lines to occur.
func TestMixedLines(t *testing.T) {
	r := rand.New(rand.NewSource(16))
	reached := map[string]int{}
	for i := range 40000 {
		s := anyStacking(r, []int{3, 10, 100, 5000, impl.MaxLen}[i%5])
		if sizes, places := checkStacking(t, s); len(sizes) != len(s.crosses) || len(places) != len(s.crosses) {
			t.Errorf("%v has the sizes %d and the places %d", s, sizes, places)
		}
		for _, feature := range stackFeatures(s) {
			reached[feature]++
		}
	}
	features := []string{"stretched lines that are rounded", "free beyond -MaxLen"}
	for n := range 13 {
		features = append(features, fmt.Sprintf("%d lines", n))
	}
	for content := range 8 {
		for sign := -1; sign <= 1; sign++ {
			features = append(features, fmt.Sprintf("content %d, free of sign %d", content, sign))
		}
		features = append(features, fmt.Sprintf("content %d, free -1", content), fmt.Sprintf("content %d, free 1", content))
	}
	for _, feature := range features {
		if reached[feature] < 100 {
			t.Errorf("%s: only %d times", feature, reached[feature])
		}
	}
}

// TestAcrossSharesNoMemory looks at the spare capacity too, and at the addresses of what is returned.
func TestAcrossSharesNoMemory(t *testing.T) {
	r := rand.New(rand.NewSource(52))
	list := []stacking{
		stacked(impl.CtStretch, 0, 100), stacked(impl.CtStretch, -1, 100, 10, 20), stacked(impl.CtStretch, 0, 100, -1, 20),
		stacked(impl.CtStretch, 0, 100, many(1, 13)...), stacked(impl.CtStretch, 0, 100, many(1, 65)...),
		stacked(impl.CtStretch, 0, 30, 10, 20), stacked(impl.CtStretch, 0, 29, 10, 20), stacked(impl.CtStretch, 0, 31, 10, 20),
		stacked(impl.CtStart, 0, 100, 10, 20), stacked(impl.CtEnd, 0, -1, 10, 20), stacked(0, 0, 100, 10, 20),
		stacked(impl.CtStretch, 0, 0, 0, 0), stacked(impl.CtStretch, 0, 100, 100), stacked(impl.CtBetween, 0, 100, 10),
	}
	for range 500 {
		list = append(list, anyStacking(r, 100))
	}
	for _, s := range list {
		s.crosses = append(slices.Clone(s.crosses), 91, 92)[:len(s.crosses)]
		before := slices.Clone(s.crosses[:cap(s.crosses)])
		results := [][]int{s.stretched(), s.stretched(), s.places(), s.places()}
		kept := [][]int{slices.Clone(results[1]), slices.Clone(results[3])}
		for i, result := range results {
			others := slices.Delete(slices.Clone(results), i, i+1)
			if sharesMemory(result, s.crosses, others[0], others[1], others[2]) {
				t.Errorf("a result of %v is shared memory", s)
			}
		}
		// What a result is used for later changes neither the argument nor another result.
		clear(results[0][:cap(results[0])])
		clear(results[2][:cap(results[2])])
		if again, places := s.stretched(), s.places(); !slices.Equal(again, kept[0]) || !slices.Equal(places, kept[1]) {
			t.Errorf("%v has the sizes %d and %d, and then %d and %d", s, kept[0], kept[1], again, places)
		}
		if !slices.Equal(results[1], kept[0]) || !slices.Equal(results[3], kept[1]) {
			t.Errorf("results of %v became %d and %d", s, results[1], results[3])
		}
		impl.CrossTotal(s.crosses, s.gap)
		s.valid()
		if !slices.Equal(s.crosses[:cap(s.crosses)], before) {
			t.Errorf("%d became %d", before, s.crosses[:cap(s.crosses)])
		}
	}
}
