package tests

import (
	"fmt"
	"math"
	"math/big"
	"math/rand"
	"reflect"
	"slices"
	"testing"

	"loop.example/g00972/impl"
)

// mostItems is the largest number of items.
const mostItems = 12

// item is flexible in both directions, without margins.
func item(base, least, most, grow, shrink int) impl.Item {
	return impl.Item{Base: base, Least: least, Most: most, Grow: grow, Shrink: shrink}
}

func growing(base, least, most, grow int) impl.Item { return item(base, least, most, grow, 0) }

func shrinking(base, least, most, shrink int) impl.Item { return item(base, least, most, 0, shrink) }

// rigid has a weight of 0 in both directions.
func rigid(base, least, most int) impl.Item { return item(base, least, most, 0, 0) }

func withMargins(x impl.Item, before, behind int) impl.Item {
	x.Before, x.Behind = before, behind
	return x
}

// times is a list with the same item n times.
func times(n int, x impl.Item) []impl.Item { return slices.Repeat([]impl.Item{x}, n) }

// fullItem is valid, and all of its numbers differ from zero and from each other.
func fullItem() impl.Item {
	return impl.Item{Base: 50, Least: 20, Most: 90, Grow: 2, Shrink: 3, Before: 4, Behind: -5, AutoBefore: true}
}

// A line is what FlexLine has as its arguments.
type line struct {
	items      []impl.Item
	gap, inner int
}

func lineOf(gap, inner int, items ...impl.Item) line { return line{items, gap, inner} }

func (l line) String() string { return fmt.Sprintf("gap %d, inner %d, %+v", l.gap, l.inner, l.items) }

// itemLimits states each range in numbers, so that it shares nothing with the constants of the program.
func itemLimits() []limit {
	return []limit{
		{"Base", 0, 1048576}, {"Least", 0, 1048576}, {"Most", -1, 1048576}, {"Grow", 0, 1000}, {"Shrink", 0, 1000},
		{"Before", -1048576, 1048576}, {"Behind", -1048576, 1048576},
	}
}

// withItem returns x with another number in the field of this name.
func withItem(x impl.Item, name string, n int) impl.Item {
	reflect.ValueOf(&x).Elem().FieldByName(name).SetInt(int64(n))
	return x
}

// withItemAt returns a copy of list with another item.
func withItemAt(list []impl.Item, i int, x impl.Item) []impl.Item {
	list = slices.Clone(list)
	list[i] = x
	return list
}

// autoItems are x with every choice of auto margins.
func autoItems(x impl.Item) []impl.Item {
	var list []impl.Item
	for i := range 4 {
		x.AutoBefore, x.AutoBehind = i&1 == 1, i&2 == 2
		list = append(list, x)
	}
	return list
}

// endItems have each field at the ends of int, alone and all at once.
func endItems() []impl.Item {
	var list []impl.Item
	for _, n := range []int{math.MinInt, math.MinInt + 1, math.MaxInt - 1, math.MaxInt} {
		all := impl.Item{}
		for _, l := range itemLimits() {
			list = append(list, withItem(fullItem(), l.name, n), withItem(impl.Item{}, l.name, n))
			all = withItem(all, l.name, n)
		}
		list = append(list, all)
	}
	return list
}

// The functions named want.. follow the sentences of the document and share nothing with the program.
func wantItem(x impl.Item) bool {
	for _, l := range itemLimits() {
		if n := int(reflect.ValueOf(x).FieldByName(l.name).Int()); n < l.least || n > l.most {
			return false
		}
	}
	return true
}

func wantItems(list []impl.Item) bool {
	return len(list) <= mostItems && !slices.ContainsFunc(list, func(x impl.Item) bool { return !wantItem(x) })
}

func wantLine(l line) bool {
	return wantItems(l.items) && l.gap >= 0 && l.gap <= 1048576 && l.inner >= 0 && l.inner <= 1048576
}

func wantHyp(x impl.Item) int {
	n := x.Base
	if x.Most >= 0 && n > x.Most {
		n = x.Most
	}
	if n < x.Least {
		n = x.Least
	}
	return n
}

func wantHyps(list []impl.Item) []int {
	var sizes []int
	for _, x := range list {
		sizes = append(sizes, wantHyp(x))
	}
	return sizes
}

// wantOuter wraps around as an int of 64 bits does.
func wantOuter(list []impl.Item, sizes []int, gap int) int {
	sum := new(big.Int)
	for _, size := range sizes {
		sum.Add(sum, bigOf(size))
	}
	for i, x := range list {
		sum.Add(sum, bigOf(x.Before))
		sum.Add(sum, bigOf(x.Behind))
		if i > 0 {
			sum.Add(sum, bigOf(gap))
		}
	}
	return wrapped(sum)
}

// A wanted is the state of a line between two passes.
type wanted struct {
	line
	grows   bool
	sizes   []int
	frozen  []bool
	passes  int
	reached map[string]bool
}

func (w *wanted) weight(i int) int {
	if w.grows {
		return w.items[i].Grow
	}
	return w.items[i].Shrink * w.items[i].Base
}

// wantFlex makes the passes with exact fractions.
func wantFlex(l line) *wanted {
	w := &wanted{line: l, sizes: wantHyps(l.items), reached: map[string]bool{}}
	if !wantLine(l) {
		return w
	}
	w.grows = wantOuter(l.items, w.sizes, l.gap) < l.inner
	for i, x := range l.items {
		w.frozen = append(w.frozen, w.weight(i) == 0 || w.grows && x.Base > w.sizes[i] || !w.grows && x.Base < w.sizes[i])
	}
	for slices.Contains(w.frozen, false) {
		w.passes++
		w.pass(w.space())
	}
	return w
}

func (w *wanted) open() []int {
	var list []int
	for i, frozen := range w.frozen {
		if !frozen {
			list = append(list, i)
		}
	}
	return list
}

func (w *wanted) space() int {
	sizes := slices.Clone(w.sizes)
	for _, i := range w.open() {
		sizes[i] = w.items[i].Base
	}
	space := w.inner - wantOuter(w.items, sizes, w.gap)
	if w.grows && space < 0 || !w.grows && space > 0 {
		space = 0
	}
	if space < -1048576 || space > 1048576 {
		w.reached["a space beyond the limits"] = true
	}
	return max(-1048576, min(space, 1048576))
}

func ratOf(n int) *big.Rat { return new(big.Rat).SetInt(bigOf(n)) }

func (w *wanted) pass(space int) {
	all, sum := 0, new(big.Rat)
	for _, i := range w.open() {
		all += w.weight(i)
	}
	var low, high []int
	for _, i := range w.open() {
		x := w.items[i]
		share := new(big.Rat).Mul(ratOf(space), big.NewRat(int64(w.weight(i)), int64(all)))
		target := new(big.Rat).Add(ratOf(x.Base), share)
		least, most := ratOf(x.Least), ratOf(max(x.Most, x.Least))
		if target.Cmp(least) < 0 {
			low = append(low, i)
			sum.Add(sum, least.Sub(least, target))
		} else if x.Most >= 0 && target.Cmp(most) > 0 {
			high = append(high, i)
			sum.Sub(sum, target.Sub(target, most))
		}
	}
	w.end(space, low, high, sum.Sign())
}

func (w *wanted) end(space int, low, high []int, sign int) {
	if len(low)+len(high) == 0 {
		w.share(space)
	}
	if len(low) > 0 && len(high) > 0 {
		w.reached[fmt.Sprintf("both limits, sum of sign %d", sign)] = true
	}
	for _, i := range low {
		if sign >= 0 {
			w.sizes[i], w.frozen[i] = w.items[i].Least, true
		}
	}
	for _, i := range high {
		if sign <= 0 {
			w.sizes[i], w.frozen[i] = max(w.items[i].Most, w.items[i].Least), true
		}
	}
}

func (w *wanted) share(space int) {
	var weights []int
	for _, i := range w.open() {
		weights = append(weights, w.weight(i))
	}
	shares := bigShares(space, weights)
	for at, i := range w.open() {
		size := new(big.Int).Add(bigOf(w.items[i].Base), shares[at])
		w.sizes[i] = int(bigClamp(size, 0, 1048576).Int64())
	}
	for _, i := range w.open() {
		w.frozen[i] = true
	}
}

// checkLimits is promise 13.
func checkLimits(t *testing.T, l line, sizes []int) {
	t.Helper()
	valid := wantItems(l.items)
	if len(sizes) != len(l.items) {
		t.Fatalf("FlexLine of %v = %d", l, sizes)
	}
	for i, x := range l.items {
		size := sizes[i]
		if size < x.Least || x.Most >= 0 && size > max(x.Most, x.Least) || valid && (size < 0 || size > 1048576) {
			t.Errorf("FlexLine of %v = %d, in which size %d violates a limit", l, sizes, i)
		}
	}
}

// checkFlex compares the sizes and the passes with the document and with promise 13, and returns what was to be seen on the way.
func checkFlex(t *testing.T, l line) *wanted {
	t.Helper()
	want := wantFlex(l)
	sizes, passes := impl.FlexLine(l.items, l.gap, l.inner), impl.FlexPasses(l.items, l.gap, l.inner)
	if !slices.Equal(sizes, want.sizes) {
		t.Errorf("FlexLine of %v = %d, not %d", l, sizes, want.sizes)
	}
	if passes != want.passes || passes < 0 || passes > len(l.items)+1 {
		t.Errorf("FlexPasses of %v = %d, not %d", l, passes, want.passes)
	}
	checkLimits(t, l, sizes)
	return want
}

// A flexCase is a line with its result, which is written down and not computed.
type flexCase struct {
	line
	want   []int
	passes int
}

func checkFlexCases(t *testing.T, cases []flexCase) {
	t.Helper()
	for _, c := range cases {
		if got := impl.FlexLine(c.items, c.gap, c.inner); !slices.Equal(got, c.want) {
			t.Errorf("FlexLine of %v = %d, not %d", c.line, got, c.want)
		}
		if got := impl.FlexPasses(c.items, c.gap, c.inner); got != c.passes {
			t.Errorf("FlexPasses of %v = %d, not %d", c.line, got, c.passes)
		}
		checkFlex(t, c.line)
		for i, x := range c.items {
			for _, auto := range autoItems(x) {
				checkFlex(t, line{withItemAt(c.items, i, auto), c.gap, c.inner})
			}
		}
	}
}

// itemsFrom holds an item for each choice of one number from each list.
func itemsFrom(bases, leasts, mosts, grows, shrinks []int) []impl.Item {
	var list []impl.Item
	for _, base := range bases {
		for _, least := range leasts {
			for _, most := range mosts {
				for _, grow := range grows {
					for _, shrink := range shrinks {
						list = append(list, item(base, least, most, grow, shrink))
					}
				}
			}
		}
	}
	return list
}

// pick takes one of the numbers.
func pick(r *rand.Rand, list ...int) int { return list[r.Intn(len(list))] }

// anyItem has sizes up to a limit, of which many are at or near the ends.
func anyItem(r *rand.Rand, most int) impl.Item {
	size := func() int { return pick(r, 0, 1, r.Intn(most+1), r.Intn(most+1), r.Intn(most+1), most) }
	margin := func() int { return pick(r, 0, 0, r.Intn(most/4+1), -r.Intn(most/4+1), r.Intn(most+1)-r.Intn(most+1)) }
	factor := func() int { return pick(r, 0, 1, 1, 2, 3, r.Intn(1001), 1000) }
	return impl.Item{
		Base: size(), Least: pick(r, 0, 0, size()), Most: pick(r, -1, -1, size(), size()), Grow: factor(), Shrink: factor(),
		Before: margin(), Behind: margin(), AutoBefore: r.Intn(2) == 1, AutoBehind: r.Intn(2) == 1,
	}
}

// anyLine has up to MaxItems items, and an inner size that is likely to lie between the sums of their limits.
func anyLine(r *rand.Rand, most int) line {
	items := make([]impl.Item, r.Intn(mostItems+1))
	for i := range items {
		items[i] = anyItem(r, most)
	}
	gap := pick(r, 0, 0, r.Intn(most/8+1), most)
	outer := wantOuter(items, wantHyps(items), gap)
	inner := pick(r, outer, outer-1, outer+1, outer/2, outer+r.Intn(most+1), outer-r.Intn(most+1), r.Intn(1048577))
	return line{items, gap, max(0, min(inner, 1048576))}
}
