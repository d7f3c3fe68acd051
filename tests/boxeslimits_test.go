package tests

import (
	"fmt"
	"math"
	"math/rand"
	"reflect"
	"slices"
	"testing"

	"loop.example/g00972/impl"
)

func TestBoxesAtTheLimits(t *testing.T) {
	most := impl.MaxLen
	row := boxed(hosted(rowWith(), kidOf(most, most), kidOf(most, most)), free(0), free(0))
	first, second := frameOf(2, 0, 0, most, most), frameOf(3, most, 0, most, most)
	checkBoxCases(t, []boxCase{
		// The sizes add up to more than MaxLen, of which a box never has more.
		{row, boxOf(most, most, most, first, second)},
		{row.in(atMost(most), exactly(most)), boxOf(most, most, most, first, second)},
		{row.in(exactly(0), exactly(0)), boxOf(0, 0, most, first, second)},
		{row.with(1, "ColGap", most), boxOf(most, most, most, first, frameOf(3, 2*most, 0, most, most))},
		{row.with(1, "Pad", edgesOf(most), "Border", edgesOf(most)), boxOf(most, most, most, frameOf(2, most, most, most, most), frameOf(3, 2*most, most, most, most))},
		{row.backwards(), boxOf(most, most, most, first, frameOf(3, -most, 0, most, most))},
		{row.with(1, "Justify", impl.JsEnd), boxOf(most, most, most, frameOf(2, -most, 0, most, most), frameOf(3, 0, 0, most, most))},
		{row.with(2, "Shrink", 1).with(3, "Shrink", 1000), boxOf(most, most, most, frameOf(2, 0, 0, most-1048, most), frameOf(3, most-1048, 0, 1048, most))},
		{row.with(1, "Wrap", impl.WrOn).in(exactly(most), exactly(most)), boxOf(most, most, most, first, frameOf(3, 0, most, most, most))},
		{row.with(1, "Wrap", impl.WrBack).in(exactly(most), exactly(most)), boxOf(most, most, most, first, frameOf(3, 0, -most, most, most))},
		{row.with(1, "Dir", impl.DrColumn), boxOf(most, most, most, first, frameOf(3, 0, most, most, most))},
		{row.with(2, "Margin", margin(point(most))), boxOf(most, most, most, frameOf(2, most, most, most, most), frameOf(3, 3*most, 0, most, most))},
		{row.with(2, "Margin", margin(point(-most))), boxOf(0, most, 0, frameOf(2, -most, -most, most, most), frameOf(3, -most, 0, most, most))},
		// Nothing at all.
		{boxed(hosted(rowWith(), kidOf(0, 0)), exactly(0), exactly(0)), boxOf(0, 0, 0, frameOf(2, 0, 0, 0, 0))},
		{boxed(hosted(rowWith("Items", impl.AlStretch), kidWith("Grow", 1)), exactly(0), exactly(0)), boxOf(0, 0, 0, frameOf(2, 0, 0, 0, 0))},
		{boxed(hosted(columnWith("Items", impl.AlStretch), kidWith("Grow", 1)), exactly(most), exactly(most)), boxOf(most, most, most, frameOf(2, 0, 0, most, most))},
	})
	// The line is as long as it can be, which is too short for the child and its margins: it is shortened, and its baseline is no longer within it.
	shortened := boxed(hosted(rowWith("Items", impl.AlStretch), kidWith("Margin", impl.Sides{Top: point(-10), Bottom: point(20)})), free(0), free(0))
	checkBoxCases(t, []boxCase{
		{shortened.measured(2, rule(0, 5, most)), boxOf(5, most, most-20, frameOf(2, 0, -10, 5, most-10))},
		{shortened.measured(2, rule(0, 5, most-10)), boxOf(5, most, most-20, frameOf(2, 0, -10, 5, most-10))},
		{shortened.measured(2, rule(0, 5, most-11)), boxOf(5, most-1, most-21, frameOf(2, 0, -10, 5, most-11))},
	})
	full := boxed(hosted(rowWith("Wrap", impl.WrOn, "Content", impl.CtStretch), slices.Repeat([]impl.Style{kidOf(most, 1)}, 11)...), exactly(most), exactly(most))
	if frames := full.frames(); len(frames) != 11 || frames[10] != frameOf(12, 0, most-95326, most, 1) {
		t.Errorf("the frames %+v of %v", full.frames(), full)
	}
	for _, s := range []impl.Style{mostStyle(), leastStyle(), fullStyle()} {
		s.Hidden, s.Apart = false, false
		for _, space := range []impl.Space{free(0), atMost(0), atMost(most), exactly(0), exactly(100), exactly(most)} {
			for dir := impl.DrRow; dir <= impl.DrColumnBack; dir++ {
				b := boxed(hosted(changedStyle(s, "Dir", dir), s, kidOf(most, 0), s), space, space)
				checkBox(t, b)
				checkBox(t, b.backwards())
				checkBox(t, b.in(space, exactly(most)))
				checkBox(t, b.in(free(0), space).with(1, "Wrap", impl.WrNone))
			}
		}
	}
}

// TestBoxesInEachSpace has every mode for each dimension, at the ends and beyond them.
func TestBoxesInEachSpace(t *testing.T) {
	tree := hosted(padded(rowWith("Wrap", impl.WrOn)), kidOf(20, 10), kidWith("Grow", 1, "Width", percent(30), "Ratio", 100), kidWith("Self", impl.AlStretch))
	numbers := append(spaceNumbers(), 1, 6, 8, 29, 30, 31, 100)
	for _, wide := range everyMode() {
		for _, high := range everyMode() {
			for i, n := range numbers {
				w, h := impl.Space{Mode: wide, N: n}, impl.Space{Mode: high, N: numbers[(i*5+3)%len(numbers)]}
				if wide == 1 {
					w.N = 0
				}
				if high == 1 {
					h.N = 0
				}
				for node := 1; node <= 4; node++ {
					checkBox(t, boxed(tree, w, h).at(node))
					checkBox(t, boxed(tree, w, h).at(node).backwards())
				}
			}
		}
	}
}

// everyMode states the values in numbers, so that it shares nothing with the constants of the program.
func everyMode() []int { return []int{1, 2, 3} }

func TestBoxesOfSpacesThatAreNotValid(t *testing.T) {
	b := boxed(hosted(rowWith(), kidOf(20, 10), kidOf(30, 15)), exactly(100), exactly(50)).measured(3, rule(0, 1, 1))
	ends := []int{math.MinInt, math.MinInt + 1, -1, impl.MaxLen + 1, 1 << 32, math.MaxInt - 1, math.MaxInt}
	wrong := []impl.Space{{}, free(1), free(-1), {Mode: 4}, {Mode: -1}, {Mode: 1<<32 + 1}, {Mode: math.MinInt + 3, N: 5}}
	for _, n := range ends {
		wrong = append(wrong, free(n), atMost(n), exactly(n), impl.Space{Mode: n}, impl.Space{Mode: n, N: n})
	}
	for _, mode := range otherModes() {
		wrong = append(wrong, impl.Space{Mode: mode}, impl.Space{Mode: mode, N: 100})
	}
	for _, s := range wrong {
		for n := range 5 {
			checkNoBox(t, b.at(n).in(s, exactly(50)), 2, 3)
			checkNoBox(t, b.at(n).in(exactly(100), s).backwards(), 2, 3)
			checkNoBox(t, b.at(n).in(s, s), 2, 3)
		}
	}
	checkBox(t, b)
}

func TestBoxesOfNodesThatDoNotExist(t *testing.T) {
	for _, x := range validTrees() {
		count := len(x.Nodes)
		for _, n := range append(nodeNumbers(), count+1, -count) {
			if n < 1 || n > count {
				checkNoBox(t, boxed(x, exactly(50), free(0)).at(n), 1, 2, 3)
			}
		}
	}
	for _, n := range nodeNumbers() {
		checkNoBox(t, boxed(impl.Tree{}, free(0), free(0)).at(n), nodeNumbers()...)
	}
}

func TestBoxesOfTreesThatAreNotValid(t *testing.T) {
	for _, x := range wrongTrees() {
		for n := range 4 {
			checkNoBox(t, boxed(x, exactly(50), free(0)).at(n), 1, 2, 3)
		}
	}
	// Only another node, far from n, is wrong.
	valid := treeOf(0, 1, 1, 0, 4)
	for _, x := range []impl.Tree{
		withStyle(valid, 5, impl.Style{}), withTable(valid, 5, true, impl.Table{}), withTable(valid, 5, false, roomTable(3)),
		withUp(valid, 5, 0), withUp(valid, 4, 9), withKids(valid, 4), withKids(valid, 4, 5, 5), withKids(valid, 5, 6),
		withStyle(valid, 4, withRatio(impl.StyleNew(), -1)), withStyle(valid, 4, styleWith("Width", point(-1))),
	} {
		for n := range 7 {
			checkNoBox(t, boxed(x, atMost(50), exactly(60)).at(n), 2, 3, 5)
		}
	}
	for n := range 7 {
		checkBox(t, boxed(valid, atMost(50), exactly(60)).at(n))
	}
}

func TestBoxesOfTheEndsOfInt(t *testing.T) {
	ends := []int{math.MinInt, math.MinInt + 1, math.MaxInt - 1, math.MaxInt}
	b := boxed(hosted(rowWith(), kidOf(20, 10), kidOf(30, 15)), exactly(100), exactly(50))
	for _, n := range ends {
		checkNoBox(t, b.at(n), append(ends, 0, 1, 2, 3)...)
		for _, m := range append(ends, 1, 2, 3) {
			checkNoKid(t, b.at(m), n)
			checkNoBox(t, b.in(impl.Space{Mode: m, N: n}, exactly(50)), 2)
			checkNoBox(t, b.in(exactly(50), impl.Space{Mode: m, N: n}), 2)
			checkNoBox(t, b.in(impl.Space{Mode: n, N: m}, impl.Space{Mode: m, N: n}), 2)
		}
		checkNoBox(t, boxed(treeOf(0, n), exactly(100), exactly(50)), 2)
		checkNoBox(t, boxed(withKids(treeOf(0, 1), 1, 2, n), exactly(100), exactly(50)), 2)
		for _, flag := range bothOrders() {
			checkNoBox(t, boxed(withStyle(treeOf(0, 1), 2, evenStyle(n, flag)), exactly(100), exactly(50)), 2)
		}
		for path, s := range endStyles(kidOf(20, 10), n) {
			if b := boxed(hosted(rowWith(), s), exactly(100), exactly(50)); impl.StyleOk(s) {
				t.Errorf("%s is valid at %d", path, n)
			} else {
				checkNoBox(t, b, 2)
			}
		}
	}
}

// endStyles hold n in one of the numbers of s each, by the name of the field.
func endStyles(s impl.Style, n int) map[string]impl.Style {
	styles := map[string]impl.Style{}
	for _, l := range styleLimits() {
		styles[l.name] = withField(s, l.name, n)
	}
	for _, name := range sizeNames() {
		styles[name] = withField(s, name, point(n))
		styles[name+" in percent"] = withField(s, name, percent(n))
	}
	for place := range 6 {
		styles[fmt.Sprint("margin ", place)] = withField(s, "Margin", withSide(s.Margin, place, point(n)))
	}
	for place := range 4 {
		styles[fmt.Sprint("padding ", place)] = withField(s, "Pad", withEdge(s.Pad, place, n))
		styles[fmt.Sprint("border ", place)] = withField(s, "Border", withEdge(s.Border, place, n))
	}
	return styles
}

// TestBoxesOfEachChoice goes through every direction, wrapping, justification, distribution of lines and alignment.
func TestBoxesOfEachChoice(t *testing.T) {
	kids := []impl.Style{
		kidOf(20, 10, "Margin", impl.Sides{Left: point(2), Top: point(3), Start: percent(4), Bottom: point(-1)}),
		kidWith("Basis", point(25), "Grow", 1), kidWith("Ratio", 100, "Width", point(30), "Self", impl.AlStretch), kidOf(18, 27, "Shrink", 1, "Order", -1),
	}
	tree := measuredTree(hosted(rowWith("ColGap", 3, "RowGap", 4, "Pad", edgesOf(5)), kids...), 3)
	spaces := []impl.Space{exactly(70), atMost(75), exactly(200), free(0), exactly(40)}
	i := 0
	for dir := impl.DrRow; dir <= impl.DrColumnBack; dir++ {
		for wrap := impl.WrNone; wrap <= impl.WrBack; wrap++ {
			for _, justify := range everyJustify() {
				for _, content := range everyContent() {
					for _, align := range everyAlign() {
						i++
						b := boxed(tree, spaces[i%5], spaces[i/5%5]).with(1, "Dir", dir, "Wrap", wrap, "Justify", justify, "Content", content, "Items", align)
						checkBox(t, b)
						checkBox(t, b.backwards())
					}
				}
			}
		}
	}
}

// anyTree has up to MaxNodes nodes, of which the first one is a host. Each other one is under an earlier one.
func anyTree(r *rand.Rand, most int) impl.Tree {
	ups, depths := []int{0}, []int{1}
	count := 2 + r.Intn(mostNodes-1)
	for len(ups) < count {
		up := pick(r, 1, 1, 1, 1+r.Intn(len(ups)), len(ups))
		if depths[up-1] < mostDepth {
			ups, depths = append(ups, up), append(depths, depths[up-1]+1)
		}
	}
	t := treeOf(ups...)
	for i := range t.Nodes {
		t.Nodes[i].Style = anyBoxStyle(r, most)
		r.Shuffle(len(t.Nodes[i].Kids), reflect.Swapper(t.Nodes[i].Kids))
		if len(t.Nodes[i].Kids) == 0 && r.Intn(3) > 0 {
			t.Nodes[i].Measured = true
			for range 1 + r.Intn(3) {
				t.Nodes[i].Table.Rules = append(t.Nodes[i].Table.Rules, rule(r.Intn(most+2)-1, r.Intn(most+1), r.Intn(most+1)))
			}
		}
	}
	return t
}

// anyValueOf is none, auto, or up to a limit.
func anyValueOf(r *rand.Rand, least, most int) impl.Value {
	n := least + r.Intn(most-least+1)
	return []impl.Value{none(0), none(0), none(0), auto(0), point(n), point(n), point(n), percent(max(-100, min(n, 100)))}[r.Intn(8)]
}

func anyMargin(r *rand.Rand, most int) impl.Sides {
	if r.Intn(2) == 1 {
		return impl.Sides{}
	}
	v := func() impl.Value { return anyValueOf(r, -most/8, most/4) }
	return impl.Sides{Left: v(), Top: v(), Right: v(), Bottom: v(), Start: v(), End: v()}
}

func anyEdges(r *rand.Rand, most int) impl.Edges {
	if r.Intn(2) == 1 {
		return impl.Edges{}
	}
	return impl.Edges{Left: r.Intn(most/8 + 1), Top: r.Intn(most/8 + 1), Right: r.Intn(most/8 + 1), Bottom: r.Intn(most/8 + 1)}
}

// anyBoxStyle is valid, and likely to leave a size to the content, to the ratio or to the line.
func anyBoxStyle(r *rand.Rand, most int) impl.Style {
	size := func() impl.Value { return anyValueOf(r, 0, most) }
	limit := func() impl.Value { return []impl.Value{none(0), none(0), size()}[r.Intn(3)] }
	return impl.Style{
		Dir: 1 + r.Intn(4), Wrap: pick(r, 1, 1, 2, 2, 3), Justify: 1 + r.Intn(6), Items: pick(r, 1, 1, 1, 2, 3, 4, 5, 5), Self: pick(r, 0, 0, 0, 1, 2, 3, 4, 5),
		Content: 1 + r.Intn(6), Apart: r.Intn(15) == 0, Hidden: r.Intn(15) == 0, Order: pick(r, 0, 0, 0, 1, -1),
		Grow: pick(r, 0, 0, 1, 2), Shrink: pick(r, 0, 1, 1, 3), Basis: limit(), Width: size(), Height: size(),
		MinWidth: limit(), MinHeight: limit(), MaxWidth: limit(), MaxHeight: limit(), Ratio: pick(r, 0, 0, 64, 1+r.Intn(128), 1+r.Intn(6400)),
		Margin: anyMargin(r, most), Pad: anyEdges(r, most), Border: anyEdges(r, most/2+1), RowGap: pick(r, 0, r.Intn(most/8+1)), ColGap: pick(r, 0, r.Intn(most/8+1)),
	}
}

func anySpace(r *rand.Rand, most int) impl.Space {
	n := min(pick(r, 0, r.Intn(most+1), r.Intn(3*most+1), r.Intn(3*most+1)), impl.MaxLen)
	return []impl.Space{free(0), atMost(n), atMost(n), exactly(n), exactly(n)}[r.Intn(5)]
}

// boxFeatures names what is to be seen in a box.
func boxFeatures(l *laying) []string {
	s := l.style
	list := []string{
		fmt.Sprintf("width %d, height %d", l.w.Mode, l.h.Mode), fmt.Sprintf("direction %d, wrap %d, rtl %t", s.Dir, s.Wrap, l.rtl),
		fmt.Sprintf("justify %d", s.Justify), fmt.Sprintf("%d lines", min(len(wantLines(l.wantBreaking())), 4)),
		fmt.Sprintf("content %d, cross %d", s.Content, l.cross.Mode),
	}
	if len(l.kids) == 0 {
		return []string{fmt.Sprintf("no children, measured %t", l.tree.Nodes[l.n-1].Measured)}
	}
	for i, x := range l.wantKidSides() {
		list = append(list, fmt.Sprintf("align %d, autos %t, across %d", x.Align, x.AutoBefore || x.AutoBehind, l.wantKidCross(l.kids[i]).Mode))
		if x.Size > l.cross.N && l.cross.Mode == 3 {
			list = append(list, "a child beyond the box")
		}
	}
	if len(l.kids) < len(l.tree.Nodes[l.n-1].Kids) {
		list = append(list, "children that are gone or apart")
	}
	return list
}

func TestManyBoxes(t *testing.T) {
	r := rand.New(rand.NewSource(18))
	reached := map[string]int{}
	for i := range 12000 {
		most := []int{20, 100, 100, 1000, impl.MaxLen}[i%5]
		b := boxing{anyTree(r, most), 1, anySpace(r, most), anySpace(r, most), r.Intn(2) == 1}
		if r.Intn(4) == 0 {
			b = b.at(1 + r.Intn(len(b.tree.Nodes)))
		}
		l := checkBox(t, b)
		for _, feature := range boxFeatures(l) {
			reached[feature]++
		}
		for feature := range l.reached {
			reached[feature]++
		}
		if t.Failed() {
			t.Fatal("at box", i)
		}
	}
	features := []string{
		"a fixed size across", "a stretched size across", "an open size across", "a base by Basis", "a base by a fixed size", "a base by the ratio", "a base by content",
		"a size across by the ratio", "a baseline beyond the size", "a ratio instead of filling", "a child that fills its line", "a child beyond the box",
		"children that are gone or apart", "no children, measured true", "no children, measured false", "1 lines", "2 lines", "3 lines", "4 lines",
	}
	for n := 1; n <= 6; n++ {
		features = append(features, fmt.Sprintf("justify %d", n))
		for mode := 1; mode <= 3; mode++ {
			features = append(features, fmt.Sprintf("content %d, cross %d", n, mode))
		}
	}
	for i := range 9 {
		features = append(features, fmt.Sprintf("width %d, height %d", i/3+1, i%3+1))
	}
	for _, rtl := range bothOrders() {
		for i := range 12 {
			features = append(features, fmt.Sprintf("direction %d, wrap %d, rtl %t", i/3+1, i%3+1, rtl))
		}
		for i := range 15 {
			features = append(features, fmt.Sprintf("align %d, autos %t, across %d", i/3+1, rtl, i%3+1))
		}
	}
	for _, feature := range features {
		if reached[feature] < 50 {
			t.Errorf("%s: only %d times", feature, reached[feature])
		}
	}
}

// results holds what every function returns for a boxing, and for each of these kids.
func (b boxing) results(kids ...int) []any {
	list := []any{b.mainSpace(), b.crossSpace(), b.kidItems(), b.kidSizes(), b.kidSides(), b.sizedBox()}
	for _, kid := range kids {
		list = append(list, b.kidCross(kid), b.kidBase(kid))
	}
	return list
}

// clearAll overwrites every list among the results, and the spare capacity behind it.
func clearAll(results []any) {
	for _, x := range results {
		switch x := x.(type) {
		case []impl.Item:
			clear(x[:cap(x)])
		case []int:
			clear(x[:cap(x)])
		case []impl.Side:
			clear(x[:cap(x)])
		case impl.Box:
			clear(x.Frames[:cap(x.Frames)])
		}
	}
}

// TestBoxesShareNoMemory looks at the spare capacity too, and at the addresses of what is returned.
func TestBoxesShareNoMemory(t *testing.T) {
	r := rand.New(rand.NewSource(81))
	trees := append(validTrees(), wrongTrees()...)
	for range 300 {
		trees = append(trees, anyTree(r, 100))
	}
	for _, from := range trees {
		x := roomy(from)
		before := wholeTree(x)
		for n := range 4 {
			b := boxing{x, n, anySpace(r, 100), anySpace(r, 100), r.Intn(2) == 1}
			first, second := b.results(-1, 1, 2, 3, 4), b.results(-1, 1, 2, 3, 4)
			for i, result := range first {
				others := append(slices.Delete(slices.Clone(first), i, i+1), second...)
				if sharesMemory(result, append(others, x)...) {
					t.Errorf("result %d is shared memory: %v", i, b)
				}
			}
			if !reflect.DeepEqual(first, second) {
				t.Errorf("%+v and then %+v of %v", first, second, b)
			}
			clearAll(first)
			if third := b.results(-1, 1, 2, 3, 4); !reflect.DeepEqual(third, second) {
				t.Errorf("%+v and then %+v of %v", second, third, b)
			}
		}
		if !reflect.DeepEqual(wholeTree(x), before) {
			t.Errorf("%s became %s", flowText(before), flowText(wholeTree(x)))
		}
	}
}
