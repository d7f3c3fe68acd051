package tests

import (
	"fmt"
	"math/rand"
	"slices"
	"testing"

	"loop.example/g00972/impl"
)

// A breaking is what LinesOf has as its arguments.
type breaking struct {
	items     []impl.Item
	gap, room int
	wraps     bool
}

func broken(gap, room int, items ...impl.Item) breaking { return breaking{items, gap, room, true} }

func unbroken(gap, room int, items ...impl.Item) breaking { return breaking{items, gap, room, false} }

func (b breaking) String() string {
	return fmt.Sprintf("gap %d, room %d, wraps %v, %+v", b.gap, b.room, b.wraps, b.items)
}

func (b breaking) lines() [][]int { return impl.LinesOf(b.items, b.gap, b.room, b.wraps) }

func (b breaking) longest() int { return impl.LongestOf(b.items, b.gap, b.room, b.wraps) }

func (b breaking) sizes(inner int) []int {
	return impl.LineSizes(b.items, b.gap, b.room, b.wraps, inner)
}

// rigids has an item with each of these sizes.
func rigids(sizes ...int) []impl.Item {
	var list []impl.Item
	for _, size := range sizes {
		list = append(list, rigid(size, 0, -1))
	}
	return list
}

// upTo is a line with the indexes of n items.
func upTo(n int) []int {
	var line []int
	for i := range n {
		line = append(line, i)
	}
	return line
}

// eachAlone has a line for each of n items.
func eachAlone(n int) [][]int {
	var lines [][]int
	for i := range n {
		lines = append(lines, []int{i})
	}
	return lines
}

func sameLines(a, b [][]int) bool { return slices.EqualFunc(a, b, slices.Equal) }

func cloneLines(lines [][]int) [][]int {
	list := make([][]int, len(lines))
	for i, line := range lines {
		list[i] = slices.Clone(line)
	}
	return list
}

// The functions named want.. follow the sentences of the document and share nothing with the program.
func wantLines(b breaking) [][]int {
	var lines [][]int
	for i := range b.items {
		last := len(lines) - 1
		if i == 0 || wantBreak(b, lines[last], i) {
			lines = append(lines, []int{i})
		} else {
			lines[last] = append(lines[last], i)
		}
	}
	return lines
}

// wantBreak reports whether item i begins a new line after the line of the previous item.
func wantBreak(b breaking, line []int, i int) bool {
	if !b.wraps || b.room < 0 || !wantItems(b.items) {
		return false
	}
	return wantHypOuter(wantLineItems(b.items, append(slices.Clone(line), i)), b.gap) > b.room
}

func wantHypOuter(items []impl.Item, gap int) int { return wantOuter(items, wantHyps(items), gap) }

func wantLineItems(list []impl.Item, line []int) []impl.Item {
	var items []impl.Item
	for _, i := range line {
		for j, x := range list {
			if j == i {
				items = append(items, x)
			}
		}
	}
	return items
}

func wantLongest(b breaking) int {
	longest := 0
	for _, line := range wantLines(b) {
		longest = max(longest, wantHypOuter(wantLineItems(b.items, line), b.gap))
	}
	return longest
}

func wantLineSizes(b breaking, inner int) []int {
	sizes := make([]int, len(b.items))
	for _, indexes := range wantLines(b) {
		flexed := wantFlex(line{wantLineItems(b.items, indexes), b.gap, inner}).sizes
		for at, i := range indexes {
			sizes[i] = flexed[at]
		}
	}
	return sizes
}

func wantLineOf(lines [][]int, i int) int {
	for at, line := range lines {
		for _, index := range line {
			if index == i {
				return at
			}
		}
	}
	return -1
}

// checkOnALine is promise 14.
func checkOnALine(t *testing.T, b breaking, lines [][]int) {
	t.Helper()
	next := 0
	for _, line := range lines {
		if len(line) == 0 {
			t.Errorf("LinesOf %v = %d, with an empty line", b, lines)
		}
		for _, i := range line {
			if i != next {
				t.Errorf("LinesOf %v = %d, not each item once in order", b, lines)
			}
			next++
		}
	}
	if next != len(b.items) {
		t.Errorf("LinesOf %v = %d, with %d of the items", b, lines, next)
	}
}

// checkLines compares the lines with the document and with promise 14.
func checkLines(t *testing.T, b breaking) [][]int {
	t.Helper()
	lines, want := b.lines(), wantLines(b)
	checkOnALine(t, b, lines)
	if !sameLines(lines, want) {
		t.Errorf("LinesOf %v = %d, not %d", b, lines, want)
	}
	if got, longest := b.longest(), wantLongest(b); got != longest || got < 0 {
		t.Errorf("LongestOf %v = %d, not %d", b, got, longest)
	}
	return lines
}

// checkEachLine looks at the items of each line and at the line of each item.
func checkEachLine(t *testing.T, b breaking, lines [][]int) {
	t.Helper()
	var together []impl.Item
	for at, line := range lines {
		items := impl.LineItems(b.items, line)
		if !slices.Equal(items, wantLineItems(b.items, line)) {
			t.Errorf("LineItems of %d of %v = %+v", line, b, items)
		}
		together = append(together, items...)
		for _, i := range line {
			if got := impl.LineOfItem(lines, i); got != at {
				t.Errorf("LineOfItem(%d, %d) = %d", lines, i, got)
			}
		}
	}
	if !slices.Equal(together, b.items) {
		t.Errorf("the lines of %v have the items %+v", b, together)
	}
	for _, i := range []int{-1, len(b.items), len(b.items) + 1} {
		if got := impl.LineOfItem(lines, i); got != -1 {
			t.Errorf("LineOfItem(%d, %d) = %d", lines, i, got)
		}
	}
}

func checkLineSizes(t *testing.T, b breaking, inner int) {
	t.Helper()
	if got, want := b.sizes(inner), wantLineSizes(b, inner); !slices.Equal(got, want) {
		t.Errorf("LineSizes of %v, inner %d = %d, not %d", b, inner, got, want)
	}
}

// A breakCase is a breaking with its results, which are written down and not computed.
type breakCase struct {
	breaking
	want [][]int
	most int
}

func checkBreakCases(t *testing.T, cases []breakCase) {
	t.Helper()
	for _, c := range cases {
		if got := c.lines(); !sameLines(got, c.want) {
			t.Errorf("LinesOf %v = %d, not %d", c.breaking, got, c.want)
		}
		if got := c.longest(); got != c.most {
			t.Errorf("LongestOf %v = %d, not %d", c.breaking, got, c.most)
		}
		checkEachLine(t, c.breaking, checkLines(t, c.breaking))
		for _, inner := range []int{-1, 0, 25, c.room, impl.MaxLen, impl.MaxLen + 1} {
			checkLineSizes(t, c.breaking, inner)
		}
		checkFactors(t, c)
	}
}

// checkFactors has items that differ in what LinesOf does not look at.
func checkFactors(t *testing.T, c breakCase) {
	t.Helper()
	for i, x := range c.items {
		if !wantItem(x) {
			continue
		}
		for _, other := range autoItems(x) {
			other.Grow, other.Shrink = 1000-other.Grow, 1000-other.Shrink
			b := c.breaking
			b.items = withItemAt(b.items, i, other)
			if got := b.lines(); !sameLines(got, c.want) || b.longest() != c.most {
				t.Errorf("LinesOf %v = %d, not %d", b, got, c.want)
			}
		}
	}
}

// anyBreaking has a room that is likely to be filled exactly by some of the items.
func anyBreaking(r *rand.Rand, most int) breaking {
	l := anyLine(r, most)
	from := r.Intn(len(l.items) + 1)
	to := from + r.Intn(len(l.items)-from+1)
	outer := wantHypOuter(l.items[from:to], l.gap)
	room := pick(r, outer, outer, outer-1, outer+1, r.Intn(most+1), r.Intn(3*most+1), 0)
	return breaking{l.items, l.gap, room, r.Intn(10) > 0}
}

// featuresOf names what is to be seen in the lines.
func featuresOf(b breaking, lines [][]int) []string {
	list := []string{fmt.Sprintf("wraps %v, %d lines", b.wraps, min(len(lines), 5))}
	for at, line := range lines {
		items := wantLineItems(b.items, line)
		outer := wantHypOuter(items, b.gap)
		switch {
		case b.room < 0 || !b.wraps:
		case outer == b.room:
			list = append(list, "a line that is filled exactly")
		case outer > b.room && len(lines) > 1:
			list = append(list, fmt.Sprintf("an item that is too wide, first %v, last %v", at == 0, at == len(lines)-1))
		}
		if outer < 0 {
			list = append(list, "a negative line")
		}
		if len(items) > 1 && outer < wantHypOuter(items[:len(items)-1], b.gap) {
			list = append(list, "a longer line that is shorter")
		}
	}
	return list
}

// roomyLines returns a copy of lines in which every slice has spare capacity that is not zero.
func roomyLines(lines [][]int) [][]int {
	list := cloneLines(append(slices.Clone(lines), []int{91}, []int{92, 93}))
	for i, line := range list {
		list[i] = append(line, 94, 95)[:len(line)]
	}
	return list[:len(lines)]
}

// wholeLines returns a copy of lines with the spare capacity of its slices as elements.
func wholeLines(lines [][]int) [][]int {
	list := slices.Clone(lines[:cap(lines)])
	for i, line := range list {
		list[i] = slices.Clone(line[:cap(line)])
	}
	return list
}
