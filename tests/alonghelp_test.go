package tests

import (
	"fmt"
	"math/big"
	"math/rand"
	"slices"
	"testing"

	"loop.example/g00972/impl"
)

// A placing is what PlacesAlong has as its arguments.
type placing struct {
	justify, gap, inner int
	items               []impl.Item
	sizes               []int
}

// A sizedItem is an item with the size that it has on its line.
type sizedItem struct {
	item impl.Item
	size int
}

func sized(size int) sizedItem { return sizedItem{rigid(size, 0, -1), size} }

func (s sizedItem) margins(before, behind int) sizedItem {
	s.item = withMargins(s.item, before, behind)
	return s
}

func (s sizedItem) autos(before, behind bool) sizedItem {
	s.item.AutoBefore, s.item.AutoBehind = before, behind
	return s
}

// allSized has an item without margins for each of these sizes.
func allSized(sizes ...int) []sizedItem {
	var list []sizedItem
	for _, size := range sizes {
		list = append(list, sized(size))
	}
	return list
}

func along(justify, gap, inner int, list ...sizedItem) placing {
	p := placing{justify: justify, gap: gap, inner: inner}
	for _, s := range list {
		p.items, p.sizes = append(p.items, s.item), append(p.sizes, s.size)
	}
	return p
}

func (p placing) String() string {
	return fmt.Sprintf("justify %d, gap %d, inner %d, sizes %d of %+v", p.justify, p.gap, p.inner, p.sizes, p.items)
}

func (p placing) places() []int {
	return impl.PlacesAlong(p.items, p.sizes, p.gap, p.inner, p.justify)
}

func (p placing) end() int { return impl.EndsAlong(p.items, p.sizes, p.gap, p.inner, p.justify) }

// outer is the line with its margins and gaps, without anything that is added.
func (p placing) outer() int { return wantOuter(p.items, p.sizes, p.gap) }

// free wraps around as an int of 64 bits does.
func (p placing) free() int { return wantFree(p.items, p.sizes, p.gap, p.inner) }

func (p placing) justified(justify int) placing {
	p.justify = justify
	return p
}

// everyJustify states the values in numbers, so that it shares nothing with the constants of the program.
func everyJustify() []int { return []int{1, 2, 3, 4, 5, 6} }

// otherJustify holds numbers that are no value of justify.
func otherJustify() []int {
	return slices.DeleteFunc(choiceNumbers(), func(n int) bool { return n >= 1 && n <= 6 })
}

// The functions named want.. follow the sentences of the document and share nothing with the program.
func wantFree(list []impl.Item, sizes []int, gap, inner int) int {
	return wrapped(new(big.Int).Sub(bigOf(inner), bigOf(wantOuter(list, sizes, gap))))
}

func wantAutos(list []impl.Item) int {
	autos := 0
	for _, x := range list {
		for _, auto := range []bool{x.AutoBefore, x.AutoBehind} {
			if auto {
				autos++
			}
		}
	}
	return autos
}

// floorOf is a part of n, which k and all say, rounded down.
func floorOf(n, k, all int) int {
	return int(bigFloor(new(big.Int).Mul(bigOf(n), bigOf(k)), bigOf(all)).Int64())
}

func wantLead(free, many, justify int) int {
	shared := int(bigClamp(bigOf(free), -1048576, 1048576).Int64())
	switch {
	case many < 1 || many > 12:
		return 0
	case justify == 2:
		return free
	case justify == 3, free < 0 && (justify == 5 || justify == 6):
		return floorOf(free, 1, 2)
	case justify == 5:
		return floorOf(shared, 1, 2*many)
	case justify == 6:
		return floorOf(shared, 1, many+1)
	}
	return 0
}

func wantPlaceable(p placing) bool {
	for _, n := range append([]int{p.gap, p.inner}, p.sizes...) {
		if n < 0 || n > 1048576 {
			return false
		}
	}
	return wantItems(p.items) && len(p.items) == len(p.sizes)
}

// wantAdded is all that is added before item i. Shares of one length that follow each other add up to one part of it.
func wantAdded(p placing, free, i int) int {
	n, autos := len(p.items), wantAutos(p.items)
	if autos > 0 {
		before := wantAutos(p.items[:i])
		if i < n && p.items[i].AutoBefore {
			before++
		}
		return floorOf(max(free, 0), before, autos)
	}
	if free < 0 {
		return wantLead(free, n, p.justify)
	}
	switch p.justify {
	case 4:
		return floorOf(free, i, n-1)
	case 5:
		return floorOf(free, 2*i+1, 2*n)
	case 6:
		return floorOf(free, i+1, n+1)
	}
	return wantLead(free, n, p.justify)
}

func wantPlacing(p placing) ([]int, int) {
	if !wantPlaceable(p) || len(p.items) == 0 {
		return nil, 0
	}
	free, last := max(-1048576, min(p.free(), 1048576)), len(p.items)-1
	var places []int
	for i := range p.items {
		// Everything up to the margin behind the previous item, then the gap and the margin before this one.
		at := wantOuter(p.items[:i], p.sizes[:i], p.gap) + p.items[i].Before + wantAdded(p, free, i)
		if i > 0 {
			at += p.gap
		}
		places = append(places, at)
	}
	end := places[last] + p.sizes[last] + p.items[last].Behind
	if p.items[last].AutoBehind {
		end += wantAdded(p, free, last+1) - wantAdded(p, free, last)
	}
	return places, end
}

// checkNoOverlap is promise 15.
func checkNoOverlap(t *testing.T, p placing, places []int) {
	t.Helper()
	enough, marginsOk, limit := p.free() >= 0, true, 0
	for i, x := range p.items {
		marginsOk = marginsOk && x.Before >= 0 && x.Behind >= 0
		// With its margins, no item begins before the previous one ends.
		if begin := places[i] - x.Before; begin < limit && (i > 0 || enough) {
			t.Errorf("PlacesAlong %v = %d, in which item %d begins at %d, before %d", p, places, i, begin, limit)
		}
		if enough && marginsOk && i > 0 && places[i] < places[i-1]+p.sizes[i-1] {
			t.Errorf("PlacesAlong %v = %d, in which item %d overlaps", p, places, i)
		}
		limit = places[i] + p.sizes[i] + x.Behind
		if i < len(p.items)-1 {
			limit += p.gap
		}
	}
	if end := p.end(); end < limit || enough && end > p.inner {
		t.Errorf("EndsAlong %v = %d, before %d or beyond the line", p, end, limit)
	}
}

// checkFilled is about the cases in which the items take up the whole line, so that nothing is lost to rounding.
func checkFilled(t *testing.T, p placing) {
	t.Helper()
	free := p.free()
	fills := p.justify == 2 || p.justify == 4 && len(p.items) > 1 && free >= 0
	if wantAutos(p.items) > 0 {
		fills = free >= 0
	}
	if fills && free >= -1048576 && free <= 1048576 && p.end() != p.inner {
		t.Errorf("EndsAlong %v = %d, not the end of the line", p, p.end())
	}
}

// checkPlacing compares the places with the document and with promise 15.
func checkPlacing(t *testing.T, p placing) []int {
	t.Helper()
	places := p.places()
	want, end := wantPlacing(p)
	if !slices.Equal(places, want) {
		t.Errorf("PlacesAlong %v = %d, not %d", p, places, want)
	}
	if got := p.end(); got != end {
		t.Errorf("EndsAlong %v = %d, not %d", p, got, end)
	}
	if got, free := impl.FreeOf(p.items, p.sizes, p.gap, p.inner), p.free(); got != free {
		t.Errorf("FreeOf %v = %d, not %d", p, got, free)
	}
	if got, autos := impl.AutosIn(p.items), wantAutos(p.items); got != autos {
		t.Errorf("AutosIn %+v = %d, not %d", p.items, got, autos)
	}
	if len(places) > 0 && len(places) == len(p.items) {
		checkNoOverlap(t, p, places)
		checkFilled(t, p)
	}
	return places
}

// A placeCase is a placing with its results, which are written down and not computed.
type placeCase struct {
	placing
	want    []int
	wantEnd int
}

func checkPlaceCases(t *testing.T, cases []placeCase) {
	t.Helper()
	for _, c := range cases {
		if got := c.places(); !slices.Equal(got, c.want) {
			t.Errorf("PlacesAlong %v = %d, not %d", c.placing, got, c.want)
		}
		if got := c.end(); got != c.wantEnd {
			t.Errorf("EndsAlong %v = %d, not %d", c.placing, got, c.wantEnd)
		}
		checkPlacing(t, c.placing)
		checkOtherFields(t, c)
	}
}

// checkOtherFields has items that differ in what PlacesAlong does not look at, as their sizes are given.
func checkOtherFields(t *testing.T, c placeCase) {
	t.Helper()
	for i, x := range c.items {
		if !wantItem(x) {
			continue
		}
		for _, other := range []impl.Item{item(0, 0, 0, 0, 0), item(1048576, 1048576, 1048576, 1000, 1000), fullItem()} {
			other.Before, other.Behind, other.AutoBefore, other.AutoBehind = x.Before, x.Behind, x.AutoBefore, x.AutoBehind
			p := c.placing
			p.items = withItemAt(p.items, i, other)
			if got := p.places(); !slices.Equal(got, c.want) {
				t.Errorf("PlacesAlong %v = %d, not %d", p, got, c.want)
			}
		}
	}
}

// anyPlacing has sizes of its own, and an inner size that is likely to be near their sum.
func anyPlacing(r *rand.Rand, most int) placing {
	l := anyLine(r, most)
	p := placing{justify: r.Intn(8), gap: l.gap, items: l.items}
	withoutAutos, overlapping := r.Intn(2) == 1, r.Intn(5) == 0
	for i, x := range p.items {
		p.sizes = append(p.sizes, pick(r, 0, 1, r.Intn(most+1), r.Intn(most+1), most))
		if overlapping {
			x = withMargins(x, -r.Intn(most+1), -r.Intn(most+1))
		}
		if withoutAutos {
			x.AutoBefore, x.AutoBehind = false, false
		}
		p.items[i] = x
	}
	outer := p.outer()
	p.inner = pick(r, outer, outer-1, outer+1, outer/2, outer+r.Intn(most+1), outer-r.Intn(most+1), r.Intn(1048577))
	p.inner = max(0, min(p.inner, 1048576))
	return p
}

func signOf(n int) int { return max(-1, min(n, 1)) }

// placeFeatures names what is to be seen in a placing.
func placeFeatures(p placing) []string {
	free, sign := p.free(), signOf(p.free())
	list := []string{fmt.Sprintf("%d items", len(p.items))}
	if autos := wantAutos(p.items); autos > 0 {
		list = append(list, fmt.Sprintf("auto margins, free of sign %d", sign))
		if free > 0 && free%autos != 0 {
			list = append(list, "auto margins that are rounded")
		}
	} else {
		list = append(list, fmt.Sprintf("justify %d, free of sign %d", p.justify, sign))
	}
	if free > 1048576 {
		list = append(list, "free beyond MaxLen")
	}
	if free < -1048576 {
		list = append(list, "free beyond -MaxLen")
	}
	return list
}
