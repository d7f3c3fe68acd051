package tests

import (
	"slices"
	"testing"

	"loop.example/g00972/impl"
)

// twoKids are nodes 2 and 3 of a host with this style. They have fixed sizes, and neither grow nor shrink.
func twoKids(s impl.Style) impl.Tree { return hosted(s, kidOf(20, 10), kidOf(30, 15)) }

// padded has edges that differ from each other, and inner spaces that are less by 7 and by 11.
func padded(s impl.Style) impl.Style {
	return changedStyle(s, "Pad", impl.Edges{Left: 1, Top: 2, Right: 3, Bottom: 4}, "Border", impl.Edges{Left: 2, Top: 3, Right: 1, Bottom: 2})
}

func TestMainSpaceAndCrossSpace(t *testing.T) {
	for _, c := range []struct {
		w, h       impl.Space
		wide, high impl.Space
	}{
		{exactly(100), exactly(50), exactly(93), exactly(39)},
		{exactly(100), atMost(50), exactly(93), atMost(39)},
		{atMost(100), exactly(50), atMost(93), exactly(39)},
		{atMost(100), free(0), atMost(93), free(0)},
		{free(0), exactly(50), free(0), exactly(39)},
		{free(0), free(0), free(0), free(0)},
		{exactly(7), exactly(11), exactly(0), exactly(0)},
		{exactly(8), exactly(12), exactly(1), exactly(1)},
		{exactly(6), exactly(10), exactly(0), exactly(0)},
		{atMost(0), exactly(0), atMost(0), exactly(0)},
		{exactly(impl.MaxLen), atMost(impl.MaxLen), exactly(impl.MaxLen - 7), atMost(impl.MaxLen - 11)},
	} {
		for dir := impl.DrRow; dir <= impl.DrColumnBack; dir++ {
			b := boxed(twoKids(padded(rowWith("Dir", dir))), c.w, c.h)
			main, cross := c.wide, c.high
			if dir == impl.DrColumn || dir == impl.DrColumnBack {
				main, cross = cross, main
			}
			if b.mainSpace() != main || b.crossSpace() != cross {
				t.Errorf("the spaces %v and %v of %v", b.mainSpace(), b.crossSpace(), b)
			}
			checkBox(t, b)
		}
	}
	// A node of each kind has them.
	all := boxed(measuredTree(twoKids(rowWith()), 3), exactly(9), atMost(8)).with(1, "Hidden", true)
	for n, want := range map[int][2]impl.Space{1: {exactly(9), atMost(8)}, 2: {atMost(8), exactly(9)}, 3: {atMost(8), exactly(9)}} {
		if b := all.at(n); b.mainSpace() != want[0] || b.crossSpace() != want[1] {
			t.Errorf("the spaces %v and %v of %v", b.mainSpace(), b.crossSpace(), b)
		}
	}
}

// A crossCase is a child of a row with an inner width of exactly 200, or of a column with an inner height of exactly 200.
type crossCase struct {
	fields []any
	space  impl.Space
	want   impl.Space
}

func TestKidCross(t *testing.T) {
	side, most := func(before, behind impl.Value) []any {
		return []any{"Self", impl.AlStretch, "Margin", impl.Sides{Left: before, Top: before, Right: behind, Bottom: behind}}
	}, impl.MaxLen
	cases := []crossCase{
		// A fixed size, within its limits.
		{[]any{"Height", point(20)}, exactly(50), exactly(20)},
		{[]any{"Height", point(20)}, atMost(10), exactly(20)},
		{[]any{"Height", point(20)}, free(0), exactly(20)},
		{[]any{"Height", point(0)}, free(0), exactly(0)},
		{[]any{"Height", point(most)}, exactly(50), exactly(most)},
		{[]any{"Height", point(20), "Self", impl.AlStretch}, exactly(50), exactly(20)},
		{[]any{"Height", point(20), "MinHeight", point(30)}, exactly(50), exactly(30)},
		{[]any{"Height", point(20), "MaxHeight", point(15)}, exactly(50), exactly(15)},
		{[]any{"Height", point(20), "MaxHeight", point(15), "MinHeight", point(18)}, exactly(50), exactly(18)},
		{[]any{"Height", point(20), "Pad", edgesOf(12)}, exactly(50), exactly(24)},
		{[]any{"Height", percent(50)}, exactly(51), exactly(25)},
		{[]any{"Height", percent(50), "MinHeight", percent(70)}, exactly(50), exactly(35)},
		{[]any{"Height", percent(50), "MaxHeight", percent(30)}, exactly(50), exactly(15)},
		{[]any{"Height", point(20), "MinHeight", percent(70), "MaxHeight", percent(30)}, atMost(50), exactly(20)},
		// A percentage of a size that is not known.
		{[]any{"Height", percent(50)}, atMost(50), atMost(50)},
		{[]any{"Height", percent(50)}, free(0), free(0)},
		{[]any{"Height", percent(50), "MinHeight", point(70)}, atMost(50), atMost(50)},
		{[]any{"Height", auto(0)}, free(0), free(0)},
		// A child that fills the only line there is.
		{[]any{"Self", impl.AlStretch}, exactly(50), exactly(50)},
		{[]any{"Self", impl.AlStretch}, exactly(0), exactly(0)},
		{[]any{"Self", impl.AlStretch, "MinHeight", point(60)}, exactly(50), exactly(60)},
		{[]any{"Self", impl.AlStretch, "MaxHeight", point(20)}, exactly(50), exactly(20)},
		{[]any{"Self", impl.AlStretch, "MaxHeight", percent(20)}, exactly(50), exactly(10)},
		{[]any{"Self", impl.AlStretch, "Pad", edgesOf(30)}, exactly(50), exactly(60)},
		{side(point(5), point(7)), exactly(50), exactly(38)},
		{side(point(-5), point(7)), exactly(50), exactly(48)},
		{side(point(-5), point(-7)), exactly(50), exactly(62)},
		{side(point(30), point(30)), exactly(50), exactly(0)},
		{side(point(-most), point(-most)), exactly(most), exactly(most)},
		{side(point(most), point(most)), exactly(most), exactly(0)},
		{side(point(most), point(-most)), exactly(50), exactly(50)},
		// Nothing but the space that is left.
		{[]any{"Self", impl.AlStretch}, atMost(50), atMost(50)},
		{[]any{"Self", impl.AlStretch}, free(0), free(0)},
		{side(point(5), point(7)), atMost(50), atMost(38)},
		{side(point(30), point(30)), atMost(50), atMost(0)},
		{side(point(-5), point(-7)), atMost(50), atMost(50)},
		{side(point(-5), point(7)), atMost(50), atMost(48)},
		{side(point(5), point(7)), free(0), free(0)},
		{side(auto(0), point(7)), exactly(50), atMost(43)},
		{side(point(5), auto(0)), exactly(50), atMost(45)},
		{side(auto(0), auto(0)), exactly(50), atMost(50)},
		{[]any{"Self", impl.AlStart}, exactly(50), atMost(50)},
		{[]any{"Self", impl.AlEnd}, exactly(50), atMost(50)},
		{[]any{"Self", impl.AlCenter}, exactly(50), atMost(50)},
		{[]any{"Self", impl.AlBase}, exactly(50), atMost(50)},
		{[]any{"Self", impl.AlAuto}, exactly(50), atMost(50)},
		{[]any{"MinHeight", point(60), "MaxHeight", point(5)}, exactly(50), atMost(50)},
		{[]any{"Margin", margin(point(5))}, exactly(50), atMost(40)},
		// A ratio does not concern it, and what belongs to the other axis does not either.
		{[]any{"Ratio", 64, "Width", point(33)}, exactly(50), atMost(50)},
		{[]any{"Basis", point(33), "MinWidth", point(33), "MaxWidth", point(44), "Grow", 1, "Shrink", 1}, exactly(50), atMost(50)},
	}
	for _, c := range cases {
		kid := kidWith(c.fields...)
		for dir := impl.DrRow; dir <= impl.DrColumnBack; dir++ {
			w, h, across := exactly(200), c.space, kid
			if dir == impl.DrColumn || dir == impl.DrColumnBack {
				w, h, across = h, w, lying(kid)
			}
			for _, rtl := range bothOrders() {
				b := boxing{hosted(rowWith("Dir", dir), kidOf(1, 1), across), 1, w, h, rtl}
				if got := b.kidCross(3); got != c.want {
					t.Errorf("KidCross = %v, not %v, of %v", got, c.want, b)
				}
				checkBox(t, b)
			}
		}
	}
}

// lying has as its width what s has as its height, and the other way round.
func lying(s impl.Style) impl.Style {
	s.Width, s.Height = s.Height, s.Width
	s.MinWidth, s.MinHeight = s.MinHeight, s.MinWidth
	s.MaxWidth, s.MaxHeight = s.MaxHeight, s.MaxWidth
	return s
}

func TestKidCrossOfLines(t *testing.T) {
	kid := kidWith("Self", impl.AlStretch, "Margin", margin(point(5)))
	for wrap, want := range map[int]impl.Space{impl.WrNone: exactly(40), impl.WrOn: atMost(40), impl.WrBack: atMost(40)} {
		for content := impl.CtStretch; content <= impl.CtAround; content++ {
			b := boxed(hosted(rowWith("Wrap", wrap, "Content", content), kid), exactly(200), exactly(50))
			if got := b.kidCross(2); got != want {
				t.Errorf("KidCross = %v, not %v, of %v", got, want, b)
			}
			checkBox(t, b)
		}
	}
	// The alignment that the host has for its children, where a child has none of its own.
	for align := impl.AlStretch; align <= impl.AlBase; align++ {
		want := atMost(50)
		if align == impl.AlStretch {
			want = exactly(50)
		}
		b := boxed(hosted(rowWith("Items", align), kidWith()), exactly(200), exactly(50))
		if got := b.kidCross(2); got != want {
			t.Errorf("KidCross = %v, not %v, of %v", got, want, b)
		}
		checkBox(t, b)
	}
}

// TestMarginsInPercent has margins that follow the inner width alone, on both axes, and only if it is known.
func TestMarginsInPercent(t *testing.T) {
	edges := impl.Edges{Left: 50, Right: 50}
	for _, dir := range []int{impl.DrRow, impl.DrColumn} {
		b := boxed(hosted(rowWith("Dir", dir, "Pad", edges), kidOf(20, 10, "Margin", margin(percent(10)))), exactly(200), free(0))
		checkBoxCases(t, []boxCase{
			{b, boxOf(200, 30, 20, frameOf(2, 60, 10, 20, 10))},
			{b.in(exactly(209), exactly(1000)), boxOf(209, 1000, 20, frameOf(2, 60, 10, 20, 10))},
			{b.in(exactly(210), exactly(1000)), boxOf(210, 1000, 21, frameOf(2, 61, 11, 20, 10))},
			{b.in(exactly(200), exactly(5)), boxOf(200, 5, 20, frameOf(2, 60, 10, 20, 10))},
			{b.in(exactly(100), free(0)), boxOf(100, 10, 10, frameOf(2, 50, 0, 20, 10))},
			{b.in(atMost(200), free(0)), boxOf(120, 10, 10, frameOf(2, 50, 0, 20, 10))},
			{b.in(atMost(200), exactly(300)), boxOf(120, 300, 10, frameOf(2, 50, 0, 20, 10))},
			{b.in(free(0), exactly(300)), boxOf(120, 300, 10, frameOf(2, 50, 0, 20, 10))},
			{b.in(free(0), free(0)), boxOf(120, 10, 10, frameOf(2, 50, 0, 20, 10))},
			{b.with(2, "Margin", margin(percent(-10))).in(exactly(200), free(0)), boxOf(200, 0, 0, frameOf(2, 40, -10, 20, 10))},
		})
		// Also where they leave less space to a child that is measured.
		filling := b.with(2, "Self", impl.AlStretch, "Width", auto(0), "Height", auto(0), "Grow", 1)
		checkBoxCases(t, []boxCase{
			{filling.in(exactly(200), exactly(50)), boxOf(200, 50, 40, frameOf(2, 60, 10, 80, 30))},
			// In a column, its width limits the distance of its baseline.
			{filling.in(atMost(200), exactly(50)), boxOf(100, 50, 50*(dir%2), frameOf(2, 50, 0, 0, 50))},
		})
	}
}

func TestKidBase(t *testing.T) {
	wide, high := rule(100, 80, 10), rule(20, 15, 60)
	for _, c := range []struct {
		boxing
		want int
	}{
		// The first of those that are known.
		{rowKid(exactly(200), exactly(50), "Basis", point(30), "Width", point(40), "Height", point(20), "Ratio", 320), 30},
		{rowKid(exactly(200), exactly(50), "Basis", percent(25), "Width", point(40), "Height", point(20), "Ratio", 320), 50},
		{rowKid(atMost(200), exactly(50), "Basis", percent(25), "Width", point(40), "Height", point(20), "Ratio", 320), 40},
		{rowKid(free(0), exactly(50), "Basis", percent(25), "Width", point(40), "Height", point(20), "Ratio", 320), 40},
		{rowKid(exactly(200), exactly(50), "Basis", auto(0), "Width", point(40), "Height", point(20), "Ratio", 320), 40},
		{rowKid(exactly(200), exactly(50), "Width", percent(25), "Height", point(20), "Ratio", 320), 50},
		{rowKid(atMost(200), exactly(50), "Width", percent(25), "Height", point(20), "Ratio", 320), 100},
		{rowKid(free(0), exactly(50), "Width", auto(0), "Height", point(20), "Ratio", 320), 100},
		{rowKid(exactly(200), exactly(50), "Basis", point(0), "Width", point(40)), 0},
		{rowKid(exactly(200), exactly(50), "Width", point(0), "Height", point(20), "Ratio", 320), 0},
		// The limits of the child are not applied to it.
		{rowKid(exactly(200), exactly(50), "Basis", point(30), "MinWidth", point(40)), 30},
		{rowKid(exactly(200), exactly(50), "Width", point(30), "MaxWidth", point(20), "Pad", edgesOf(50)), 30},
		{rowKid(exactly(200), exactly(50), "Height", point(20), "Ratio", 320, "MaxWidth", point(20)), 100},
		// The ratio follows the size across in which the child is measured.
		{rowKid(exactly(200), exactly(50), "Height", point(20), "Ratio", 320, "MinHeight", point(30)), 150},
		{rowKid(exactly(200), exactly(50), "Self", impl.AlStretch, "Ratio", 320), 250},
		{rowKid(exactly(200), exactly(50), "Self", impl.AlStretch, "Ratio", 320, "Margin", margin(point(5))), 200},
		{rowKid(exactly(200), exactly(50), "Ratio", 320), 0},
		{rowKid(exactly(200), atMost(50), "Self", impl.AlStretch, "Ratio", 320), 0},
		{rowKid(exactly(200), exactly(50), "Height", percent(50), "Ratio", 320), 125},
		{rowKid(exactly(200), atMost(50), "Height", percent(50), "Ratio", 320), 0},
		// Content, in the width that the margins leave.
		{rowKid(exactly(200), exactly(50), "Pad", edgesOf(7)), 14},
		{rowKid(exactly(200), exactly(50)).measured(2, wide, high), 80},
		{rowKid(exactly(100), exactly(50)).measured(2, wide, high), 80},
		{rowKid(exactly(99), exactly(50)).measured(2, wide, high), 15},
		{rowKid(atMost(99), exactly(50)).measured(2, wide, high), 15},
		{rowKid(exactly(19), exactly(50)).measured(2, wide, high), 0},
		{rowKid(free(0), exactly(50)).measured(2, wide, high), 80},
		{rowKid(exactly(200), exactly(50), "Margin", margin(point(50))).measured(2, wide, high), 80},
		{rowKid(exactly(200), exactly(50), "Margin", margin(point(51))).measured(2, wide, high), 15},
		{rowKid(exactly(200), exactly(50), "Margin", margin(percent(26))).measured(2, wide, high), 15},
		{rowKid(exactly(99), exactly(50), "Margin", margin(point(-5))).measured(2, wide, high), 15},
		{rowKid(exactly(13), exactly(50), "Margin", margin(point(5)), "Pad", edgesOf(4)).measured(2, wide, high), 3},
		{rowKid(exactly(13), exactly(50), "Margin", margin(point(-5)), "Pad", edgesOf(4)).measured(2, rule(0, 2, 2)), 10},
		{rowKid(exactly(12), exactly(50)).measured(2, rule(0, 80, 10)), 12},
		// In a column, the height of what is in it is free, and its width is that of the space across.
		{columnKid(exactly(50), exactly(200)).measured(2, wide, high), 60},
		{columnKid(exactly(50), exactly(10)).measured(2, wide, high), 60},
		{columnKid(exactly(50), exactly(10), "Margin", margin(point(5))).measured(2, wide, high), 60},
		{columnKid(exactly(100), exactly(10)).measured(2, wide, high), 10},
		{columnKid(exactly(109), exactly(10), "Margin", margin(point(5))).measured(2, wide, high), 60},
		{columnKid(exactly(110), exactly(10), "Margin", margin(point(5))).measured(2, wide, high), 10},
		{columnKid(exactly(50), exactly(200), "Width", point(100)).measured(2, wide, high), 10},
		{columnKid(exactly(500), exactly(200), "Width", point(99)).measured(2, wide, high), 60},
		{columnKid(free(0), exactly(200)).measured(2, wide, high), 10},
		{columnKid(exactly(50), exactly(200), "Height", percent(25), "Basis", percent(10)), 20},
		{columnKid(exactly(50), exactly(200), "Height", percent(25), "Basis", auto(0)), 50},
		{columnKid(exactly(50), atMost(200), "Height", percent(25), "Basis", percent(10)), 0},
		{columnKid(exactly(50), exactly(200), "Self", impl.AlStretch, "Ratio", 320), 10},
		{columnKid(exactly(50), exactly(200), "Width", point(33), "Ratio", 320), 6},
		// At the limits.
		{rowKid(free(0), free(0), "Basis", point(impl.MaxLen)), impl.MaxLen},
		{rowKid(free(0), free(0), "Height", point(impl.MaxLen), "Ratio", 6400), impl.MaxLen},
		{rowKid(free(0), free(0), "Height", point(impl.MaxLen), "Ratio", 1), 16384},
		{columnKid(free(0), free(0), "Width", point(impl.MaxLen), "Ratio", 1), impl.MaxLen},
		{rowKid(exactly(impl.MaxLen), free(0), "Basis", percent(1000)), impl.MaxLen},
	} {
		if got := c.kidBase(2); got != c.want {
			t.Errorf("KidBase = %d, not %d, of %v", got, c.want, c.boxing)
		}
		checkBox(t, c.boxing)
	}
}

// rowKid and columnKid are a host with a single child, which is node 2.
func rowKid(w, h impl.Space, fields ...any) boxing {
	return boxed(hosted(rowWith(), kidWith(fields...)), w, h)
}

func columnKid(w, h impl.Space, fields ...any) boxing {
	return boxed(hosted(columnWith(), kidWith(fields...)), w, h)
}

func TestKidItems(t *testing.T) {
	sides := impl.Sides{Left: point(1), Top: point(2), Right: point(3), Bottom: point(4)}
	kid := changedStyle(kidOf(20, 10), "Grow", 5, "Shrink", 6, "MinWidth", percent(10), "MaxWidth", percent(20),
		"MinHeight", point(7), "MaxHeight", percent(30), "Margin", sides)
	wide, high := item(20, 20, 40, 5, 6), item(10, 7, 30, 5, 6)
	autos := impl.Sides{Left: auto(0), Top: auto(0), Right: point(3), Bottom: point(4)}
	logical := impl.Sides{Left: point(1), Right: point(3), Start: point(8), End: auto(0)}
	for _, c := range []struct {
		dir    int
		rtl    bool
		margin impl.Sides
		want   impl.Item
	}{
		{impl.DrRow, false, sides, withMargins(wide, 1, 3)},
		{impl.DrRow, true, sides, withMargins(wide, 3, 1)},
		{impl.DrRowBack, false, sides, withMargins(wide, 3, 1)},
		{impl.DrRowBack, true, sides, withMargins(wide, 1, 3)},
		{impl.DrColumn, false, sides, withMargins(high, 2, 4)},
		{impl.DrColumn, true, sides, withMargins(high, 2, 4)},
		{impl.DrColumnBack, false, sides, withMargins(high, 4, 2)},
		{impl.DrColumnBack, true, sides, withMargins(high, 4, 2)},
		{impl.DrRow, false, autos, withAutoMargins(withMargins(wide, 0, 3), true, false)},
		{impl.DrRow, true, autos, withAutoMargins(withMargins(wide, 3, 0), false, true)},
		{impl.DrColumn, true, autos, withAutoMargins(withMargins(high, 0, 4), true, false)},
		{impl.DrColumnBack, false, autos, withAutoMargins(withMargins(high, 4, 0), false, true)},
		// The start of a row is before the child in either order.
		{impl.DrRow, false, logical, withAutoMargins(withMargins(wide, 8, 0), false, true)},
		{impl.DrRow, true, logical, withAutoMargins(withMargins(wide, 8, 0), false, true)},
		{impl.DrRowBack, false, logical, withAutoMargins(withMargins(wide, 0, 8), true, false)},
		{impl.DrRowBack, true, logical, withAutoMargins(withMargins(wide, 0, 8), true, false)},
		{impl.DrColumn, true, logical, high},
	} {
		tree := hosted(rowWith("Dir", c.dir), kidOf(1, 1), changedStyle(kid, "Margin", c.margin))
		b := boxing{tree, 1, exactly(200), exactly(100), c.rtl}
		if got := b.kidItems(); len(got) != 2 || got[1] != c.want || got[0] != item(1, 0, -1, 0, 0) {
			t.Errorf("KidItems = %+v, not %+v, of %v", got, c.want, b)
		}
		checkBox(t, b)
		// Of a size that is not known, there is no part.
		unknown := c.want
		unknown.Least, unknown.Most = 0, -1
		if !wantRow(c.dir) {
			unknown.Least = 7
		}
		for _, space := range []impl.Space{atMost(100), free(0)} {
			b = b.in(space, space)
			if got := b.kidItems(); len(got) != 2 || got[1] != unknown {
				t.Errorf("KidItems = %+v, not %+v, of %v", got, unknown, b)
			}
			checkBox(t, b)
		}
	}
}

func withAutoMargins(x impl.Item, before, behind bool) impl.Item {
	x.AutoBefore, x.AutoBehind = before, behind
	return x
}

func TestKidSides(t *testing.T) {
	sides := impl.Sides{Left: point(1), Top: point(2), Right: point(3), Bottom: auto(0)}
	for _, c := range []struct {
		dir, wrap  int
		rtl        bool
		self       int
		wide, high int
		want       impl.Side
	}{
		{impl.DrRow, impl.WrNone, false, impl.AlEnd, 20, 10, autoSide(alignedSide(baseSide(10, 10, 2, 0), impl.AlEnd), false, true)},
		{impl.DrRow, impl.WrOn, false, impl.AlAuto, 20, 10, autoSide(alignedSide(baseSide(10, 10, 2, 0), impl.AlStart), false, true)},
		{impl.DrRow, impl.WrBack, false, impl.AlBase, 20, 10, autoSide(baseSide(10, 10, 0, 2), true, false)},
		{impl.DrRowBack, impl.WrBack, true, impl.AlCenter, 20, 10, autoSide(alignedSide(baseSide(10, 10, 0, 2), impl.AlCenter), true, false)},
		{impl.DrRow, impl.WrNone, true, impl.AlBase, 20, 10, autoSide(baseSide(10, 10, 2, 0), false, true)},
		{impl.DrColumn, impl.WrNone, false, impl.AlStretch, 20, 10, alignedSide(baseSide(10, 20, 1, 3), impl.AlStretch)},
		{impl.DrColumn, impl.WrNone, true, impl.AlStretch, 20, 10, alignedSide(baseSide(10, 20, 3, 1), impl.AlStretch)},
		{impl.DrColumn, impl.WrBack, false, impl.AlEnd, 20, 10, alignedSide(baseSide(10, 20, 3, 1), impl.AlEnd)},
		{impl.DrColumn, impl.WrBack, true, impl.AlEnd, 20, 10, alignedSide(baseSide(10, 20, 1, 3), impl.AlEnd)},
		// Baselines are horizontal, and one that is further down than the child is long stays within it.
		{impl.DrColumn, impl.WrNone, false, impl.AlBase, 20, 10, alignedSide(baseSide(10, 20, 1, 3), impl.AlStart)},
		{impl.DrColumnBack, impl.WrNone, false, impl.AlCenter, 20, 70, alignedSide(baseSide(20, 20, 1, 3), impl.AlCenter)},
	} {
		tree := hosted(rowWith("Dir", c.dir, "Wrap", c.wrap), kidOf(1, 1), kidOf(c.wide, c.high, "Margin", sides, "Self", c.self))
		for _, space := range []impl.Space{exactly(100), atMost(100), free(0)} {
			b := boxing{tree, 1, space, space, c.rtl}
			if got := b.kidSides(); len(got) != 2 || got[1] != c.want {
				t.Errorf("KidSides = %+v, not %+v, of %v", got, c.want, b)
			}
			checkBox(t, b)
		}
	}
}

func TestBoxWithoutChildrenInTheFlow(t *testing.T) {
	leaf := boxed(hosted(impl.StyleNew()), free(0), free(0))
	framed := boxed(hosted(padded(impl.StyleNew())), free(0), free(0))
	for _, b := range []boxing{
		leaf, leaf.with(1, "Dir", impl.DrRow, "Wrap", impl.WrOn, "Content", impl.CtStretch, "Items", impl.AlBase, "ColGap", 7, "RowGap", 8),
		// The spaces alone give it a size, and not what its style asks for.
		leaf.with(1, "Width", point(40), "MinHeight", point(30), "Basis", point(20), "Ratio", 64, "Margin", margin(point(5)), "Grow", 1),
		leaf.with(1, "Hidden", true, "Apart", true), boxed(hosted(impl.StyleNew(), kidOf(20, 10, "Hidden", true), kidOf(20, 10, "Apart", true)), free(0), free(0)),
	} {
		checkBoxCases(t, []boxCase{
			{b, boxOf(0, 0, 0)},
			{b.in(atMost(30), atMost(20)), boxOf(0, 0, 0)},
			{b.in(exactly(30), exactly(20)), boxOf(30, 20, 20)},
			{b.in(exactly(0), exactly(0)), boxOf(0, 0, 0)},
			{b.in(exactly(impl.MaxLen), atMost(20)), boxOf(impl.MaxLen, 0, 0)},
			{b.in(free(0), exactly(impl.MaxLen)).backwards(), boxOf(0, impl.MaxLen, impl.MaxLen)},
		})
	}
	checkBoxCases(t, []boxCase{
		{framed, boxOf(7, 11, 11)},
		{framed.in(atMost(100), atMost(100)), boxOf(7, 11, 11)},
		{framed.in(atMost(5), atMost(8)), boxOf(5, 8, 8)},
		{framed.in(exactly(5), exactly(8)), boxOf(5, 8, 8)},
		{framed.in(exactly(100), exactly(50)), boxOf(100, 50, 50)},
		{framed.with(1, "Pad", edgesOf(impl.MaxLen)), boxOf(impl.MaxLen, impl.MaxLen, impl.MaxLen)},
	})
}

func TestMeasuredBox(t *testing.T) {
	b := boxed(hosted(padded(impl.StyleNew())), free(0), free(0)).measured(1, rule(100, 80, 10), rule(20, 15, 60))
	most := impl.MaxLen
	checkBoxCases(t, []boxCase{
		{b, boxOf(87, 21, 21)},
		{b.in(atMost(107), free(0)), boxOf(87, 21, 21)},
		{b.in(atMost(106), free(0)), boxOf(22, 71, 71)},
		{b.in(atMost(27), free(0)), boxOf(22, 71, 71)},
		{b.in(atMost(26), free(0)), boxOf(7, 11, 11)},
		{b.in(atMost(0), free(0)), boxOf(0, 11, 11)},
		{b.in(exactly(107), exactly(5)), boxOf(107, 5, 5)},
		{b.in(exactly(106), free(0)), boxOf(106, 71, 71)},
		{b.in(exactly(50), atMost(40)), boxOf(50, 40, 40)},
		{b.in(exactly(10), atMost(100)), boxOf(10, 11, 11)},
		// The height that there is does not select a rule.
		{b.in(free(0), exactly(0)), boxOf(87, 0, 0)},
		{b.in(free(0), atMost(500)), boxOf(87, 21, 21)},
		// Nor does anything in its style but the edges.
		{b.with(1, "Width", point(5), "MaxWidth", point(5), "Ratio", 64, "Dir", impl.DrRow).backwards(), boxOf(87, 21, 21)},
		{b.measured(1, rule(-1, most, most)), boxOf(most, most, most)},
		{b.measured(1, rule(-1, most, most)).in(exactly(0), exactly(3)), boxOf(0, 3, 3)},
		{b.measured(1, rule(most, 1, 1), rule(0, 2, 2)).in(exactly(most), free(0)), boxOf(most, 13, 13)},
	})
}

func TestBoxOfEachMode(t *testing.T) {
	row, column := twoKids(rowWith()), twoKids(columnWith())
	acrossRow := []impl.Frame{frameOf(2, 0, 0, 20, 10), frameOf(3, 20, 0, 30, 15)}
	downColumn := []impl.Frame{frameOf(2, 0, 0, 20, 10), frameOf(3, 0, 10, 30, 15)}
	for _, c := range []struct {
		space impl.Space
		// What is taken of 50 and 15 by a row, and of 30 and 25 by a column.
		want [4]int
	}{
		{free(0), [4]int{50, 15, 30, 25}},
		{atMost(1000), [4]int{50, 15, 30, 25}},
		{atMost(50), [4]int{50, 15, 30, 25}},
		{atMost(49), [4]int{49, 15, 30, 25}},
		{atMost(25), [4]int{25, 15, 25, 25}},
		{atMost(24), [4]int{24, 15, 24, 24}},
		{atMost(15), [4]int{15, 15, 15, 15}},
		{atMost(14), [4]int{14, 14, 14, 14}},
		{atMost(0), [4]int{0, 0, 0, 0}},
		{exactly(0), [4]int{0, 0, 0, 0}},
		{exactly(20), [4]int{20, 20, 20, 20}},
		{exactly(51), [4]int{51, 51, 51, 51}},
		{exactly(impl.MaxLen), [4]int{impl.MaxLen, impl.MaxLen, impl.MaxLen, impl.MaxLen}},
	} {
		for _, other := range []impl.Space{free(0), atMost(impl.MaxLen)} {
			checkBoxCases(t, []boxCase{
				{boxed(row, c.space, other), boxOf(c.want[0], 15, 10, acrossRow...)},
				{boxed(row, other, c.space), boxOf(50, c.want[1], 10, acrossRow...)},
				{boxed(column, c.space, other), boxOf(c.want[2], 25, 10, downColumn...)},
				{boxed(column, other, c.space), boxOf(30, c.want[3], 10, downColumn...)},
			})
		}
		checkBoxCases(t, []boxCase{
			{boxed(row, c.space, c.space), boxOf(c.want[0], c.want[1], 10, acrossRow...)},
			{boxed(column, c.space, c.space), boxOf(c.want[2], c.want[3], 10, downColumn...)},
		})
	}
}

func TestBoxWithPaddingAndBorder(t *testing.T) {
	row, column := twoKids(padded(rowWith())), twoKids(padded(columnWith()))
	acrossRow := []impl.Frame{frameOf(2, 3, 5, 20, 10), frameOf(3, 23, 5, 30, 15)}
	downColumn := []impl.Frame{frameOf(2, 3, 5, 20, 10), frameOf(3, 3, 15, 30, 15)}
	checkBoxCases(t, []boxCase{
		{boxed(row, free(0), free(0)), boxOf(57, 26, 15, acrossRow...)},
		{boxed(column, free(0), free(0)), boxOf(37, 36, 15, downColumn...)},
		{boxed(row, atMost(56), atMost(25)), boxOf(56, 25, 15, acrossRow...)},
		{boxed(column, exactly(100), exactly(50)), boxOf(100, 50, 15, downColumn...)},
		// The edges alone are larger than the box.
		{boxed(row, exactly(5), exactly(3)), boxOf(5, 3, 15, acrossRow...)},
		{boxed(row, exactly(0), atMost(0)), boxOf(0, 0, 15, acrossRow...)},
		{boxed(hosted(padded(rowWith()), kidWith("Grow", 1, "Self", impl.AlStretch)), exactly(100), exactly(50)), boxOf(100, 50, 44, frameOf(2, 3, 5, 93, 39))},
		{boxed(hosted(padded(rowWith()), kidWith("Grow", 1, "Self", impl.AlStretch)), exactly(7), exactly(11)), boxOf(7, 11, 5, frameOf(2, 3, 5, 0, 0))},
		// No child is smaller than its own edges.
		{boxed(hosted(rowWith(), padded(kidOf(1, 2, "Shrink", 1))), exactly(3), exactly(4)), boxOf(3, 4, 11, frameOf(2, 0, 0, 7, 11))},
	})
}

func TestFlexibleChildrenOfABox(t *testing.T) {
	growingKids := []impl.Style{kidOf(20, 10, "Grow", 1), kidOf(30, 15, "Grow", 3)}
	shrinkingKids := []impl.Style{kidOf(20, 10, "Shrink", 1), kidOf(30, 15, "Shrink", 1)}
	row, column := rowWith("ColGap", 4, "RowGap", 90), columnWith("RowGap", 4, "ColGap", 90)
	for _, c := range []struct {
		tree  impl.Tree
		w, h  impl.Space
		sizes []int
		want  impl.Frame
	}{
		{hosted(row, growingKids...), exactly(104), free(0), []int{32, 68}, frameOf(3, 36, 0, 68, 15)},
		{hosted(row, growingKids...), atMost(104), free(0), []int{20, 30}, frameOf(3, 24, 0, 30, 15)},
		{hosted(row, growingKids...), free(0), exactly(50), []int{20, 30}, frameOf(3, 24, 0, 30, 15)},
		{hosted(row, shrinkingKids...), exactly(44), free(0), []int{16, 24}, frameOf(3, 20, 0, 24, 15)},
		{hosted(row, shrinkingKids...), atMost(44), free(0), []int{16, 24}, frameOf(3, 20, 0, 24, 15)},
		{hosted(row, shrinkingKids...), free(0), exactly(1), []int{20, 30}, frameOf(3, 24, 0, 30, 15)},
		{hosted(row, shrinkingKids...), exactly(0), free(0), []int{0, 0}, frameOf(3, 4, 0, 0, 15)},
		{hosted(column, growingKids...), free(0), exactly(104), []int{28, 72}, frameOf(3, 0, 32, 30, 72)},
		{hosted(column, growingKids...), exactly(50), atMost(104), []int{10, 15}, frameOf(3, 0, 14, 30, 15)},
		{hosted(column, shrinkingKids...), free(0), exactly(19), []int{6, 9}, frameOf(3, 0, 10, 30, 9)},
		{hosted(column, shrinkingKids...), exactly(1), free(0), []int{10, 15}, frameOf(3, 0, 14, 30, 15)},
	} {
		b := boxed(c.tree, c.w, c.h)
		if got := b.kidSizes(); !slices.Equal(got, c.sizes) {
			t.Errorf("KidSizes = %d, not %d, of %v", got, c.sizes, b)
		}
		if got := b.frame(1); got != c.want {
			t.Errorf("the frame %+v, not %+v, of %v", got, c.want, b)
		}
		checkBox(t, b)
	}
}

func TestDirectionsOfABox(t *testing.T) {
	edges := impl.Edges{Left: 1, Top: 2, Right: 3, Bottom: 4}
	for _, c := range []struct {
		dir, wrap int
		rtl       bool
		want      [2][2]int
	}{
		{impl.DrRow, impl.WrNone, false, [2][2]int{{1, 2}, {27, 2}}},
		{impl.DrRow, impl.WrNone, true, [2][2]int{{77, 2}, {41, 2}}},
		{impl.DrRow, impl.WrOn, false, [2][2]int{{1, 2}, {27, 2}}},
		{impl.DrRow, impl.WrOn, true, [2][2]int{{77, 2}, {41, 2}}},
		{impl.DrRow, impl.WrBack, false, [2][2]int{{1, 46}, {27, 41}}},
		{impl.DrRow, impl.WrBack, true, [2][2]int{{77, 46}, {41, 41}}},
		{impl.DrRowBack, impl.WrNone, false, [2][2]int{{77, 2}, {41, 2}}},
		{impl.DrRowBack, impl.WrNone, true, [2][2]int{{1, 2}, {27, 2}}},
		{impl.DrRowBack, impl.WrOn, false, [2][2]int{{77, 2}, {41, 2}}},
		{impl.DrRowBack, impl.WrOn, true, [2][2]int{{1, 2}, {27, 2}}},
		{impl.DrRowBack, impl.WrBack, false, [2][2]int{{77, 46}, {41, 41}}},
		{impl.DrRowBack, impl.WrBack, true, [2][2]int{{1, 46}, {27, 41}}},
		{impl.DrColumn, impl.WrNone, false, [2][2]int{{1, 2}, {1, 20}}},
		{impl.DrColumn, impl.WrNone, true, [2][2]int{{77, 2}, {67, 20}}},
		{impl.DrColumn, impl.WrOn, false, [2][2]int{{1, 2}, {1, 20}}},
		{impl.DrColumn, impl.WrOn, true, [2][2]int{{77, 2}, {67, 20}}},
		{impl.DrColumn, impl.WrBack, false, [2][2]int{{77, 2}, {67, 20}}},
		{impl.DrColumn, impl.WrBack, true, [2][2]int{{1, 2}, {1, 20}}},
		{impl.DrColumnBack, impl.WrNone, false, [2][2]int{{1, 46}, {1, 23}}},
		{impl.DrColumnBack, impl.WrNone, true, [2][2]int{{77, 46}, {67, 23}}},
		{impl.DrColumnBack, impl.WrOn, false, [2][2]int{{1, 46}, {1, 23}}},
		{impl.DrColumnBack, impl.WrOn, true, [2][2]int{{77, 46}, {67, 23}}},
		{impl.DrColumnBack, impl.WrBack, false, [2][2]int{{77, 46}, {67, 23}}},
		{impl.DrColumnBack, impl.WrBack, true, [2][2]int{{1, 46}, {1, 23}}},
	} {
		b := boxed(twoKids(rowWith("Dir", c.dir, "Wrap", c.wrap, "Pad", edges, "ColGap", 6, "RowGap", 8)), exactly(100), exactly(60))
		b.rtl = c.rtl
		first, second := frameOf(2, c.want[0][0], c.want[0][1], 20, 10), frameOf(3, c.want[1][0], c.want[1][1], 30, 15)
		checkBoxCases(t, []boxCase{{b, boxOf(100, 60, first.Y+10, first, second)}})
		// Across, a limited space is taken up no further than by the children.
		b = b.in(atMost(100), atMost(60))
		checkBox(t, b)
	}
}

func TestJustifyInABox(t *testing.T) {
	for justify, want := range map[int][2][2]int{
		impl.JsStart:   {{0, 20}, {0, 20}},
		impl.JsEnd:     {{50, 70}, {-10, 10}},
		impl.JsCenter:  {{25, 45}, {-5, 15}},
		impl.JsBetween: {{0, 70}, {0, 20}},
		impl.JsAround:  {{12, 57}, {-5, 15}},
		impl.JsEvenly:  {{16, 53}, {-5, 15}},
	} {
		row := twoKids(rowWith("Justify", justify))
		column := hosted(columnWith("Justify", justify), kidOf(10, 20), kidOf(15, 30))
		for i, inner := range []int{100, 40} {
			first, second := want[i][0], want[i][1]
			checkFrameCases(t, []frameCase{
				{boxed(row, exactly(inner), free(0)), []impl.Frame{frameOf(2, first, 0, 20, 10), frameOf(3, second, 0, 30, 15)}},
				{boxed(row, exactly(inner), free(0)).backwards(), []impl.Frame{frameOf(2, inner-first-20, 0, 20, 10), frameOf(3, inner-second-30, 0, 30, 15)}},
				{boxed(column, free(0), exactly(inner)), []impl.Frame{frameOf(2, 0, first, 10, 20), frameOf(3, 0, second, 15, 30)}},
				{boxed(column, free(0), exactly(inner)).with(1, "Dir", impl.DrColumnBack), []impl.Frame{frameOf(2, 0, inner-first-20, 10, 20), frameOf(3, 0, inner-second-30, 15, 30)}},
				// Nothing is left to justify in space that need not be filled.
				{boxed(row, atMost(1000), free(0)), []impl.Frame{frameOf(2, 0, 0, 20, 10), frameOf(3, 20, 0, 30, 15)}},
				{boxed(column, free(0), free(0)), []impl.Frame{frameOf(2, 0, 0, 10, 20), frameOf(3, 0, 20, 15, 30)}},
			})
		}
	}
}

func TestContentOfABox(t *testing.T) {
	for content, want := range map[int][2][2]int{
		impl.CtStretch: {{0, 47}, {0, 10}},
		impl.CtStart:   {{0, 10}, {0, 10}},
		impl.CtEnd:     {{75, 85}, {-5, 5}},
		impl.CtCenter:  {{37, 47}, {-3, 7}},
		impl.CtBetween: {{0, 85}, {0, 10}},
		impl.CtAround:  {{18, 66}, {-3, 7}},
	} {
		row := twoKids(rowWith("Wrap", impl.WrOn, "Content", content))
		column := hosted(columnWith("Wrap", impl.WrOn, "Content", content), kidOf(10, 20), kidOf(15, 30))
		for i, inner := range []int{100, 20} {
			first, second := want[i][0], want[i][1]
			checkFrameCases(t, []frameCase{
				{boxed(row, exactly(49), exactly(inner)), []impl.Frame{frameOf(2, 0, first, 20, 10), frameOf(3, 0, second, 30, 15)}},
				{boxed(row, atMost(49), exactly(inner)).with(1, "Wrap", impl.WrBack), []impl.Frame{frameOf(2, 0, inner-first-10, 20, 10), frameOf(3, 0, inner-second-15, 30, 15)}},
				{boxed(column, exactly(inner), exactly(49)), []impl.Frame{frameOf(2, first, 0, 10, 20), frameOf(3, second, 0, 15, 30)}},
				{boxed(column, exactly(inner), exactly(49)).backwards(), []impl.Frame{frameOf(2, inner-first-10, 0, 10, 20), frameOf(3, inner-second-15, 0, 15, 30)}},
				// Neither a single line that is not broken nor space that need not be filled has anything to distribute.
				{boxed(row, exactly(49), exactly(inner)).with(1, "Wrap", impl.WrNone), []impl.Frame{frameOf(2, 0, 0, 20, 10), frameOf(3, 20, 0, 30, 15)}},
				{boxed(row, exactly(49), free(0)), []impl.Frame{frameOf(2, 0, 0, 20, 10), frameOf(3, 0, 10, 30, 15)}},
			})
		}
	}
}

func TestAlignmentInABox(t *testing.T) {
	sides := impl.Sides{Left: point(3), Top: point(3), Right: point(4), Bottom: point(4)}
	for _, c := range []struct {
		align int
		// Where a child begins in a line of 60, with its size if nothing else gives it one, also from right to left, and where in a line of 10.
		at, size, backAt, shortAt int
	}{
		{impl.AlStretch, 3, 53, 3, 3},
		{impl.AlStart, 3, 10, 46, 3},
		{impl.AlEnd, 46, 10, 3, -4},
		{impl.AlCenter, 24, 10, 25, -1},
		{impl.AlBase, 3, 10, 46, 3},
	} {
		// One child has a content of 10 and the other one a size of 10, with which it cannot fill its line.
		open := boxed(hosted(rowWith("Items", c.align), kidWith("Basis", point(20), "Margin", sides)), exactly(100), exactly(60)).measured(2, rule(0, 10, 10))
		fixed := boxed(hosted(rowWith("Items", c.align), kidOf(20, 10, "Margin", sides)), exactly(100), exactly(60))
		column := open.with(1, "Dir", impl.DrColumn).in(exactly(60), exactly(100))
		fixedAt := c.at
		if c.align == impl.AlStretch {
			fixedAt = 3
		}
		checkFrameCases(t, []frameCase{
			{open, []impl.Frame{frameOf(2, 3, c.at, 20, c.size)}},
			{open.with(1, "Items", impl.AlEnd).with(2, "Self", c.align), []impl.Frame{frameOf(2, 3, c.at, 20, c.size)}},
			{open.with(1, "Wrap", impl.WrOn, "Content", impl.CtStretch), []impl.Frame{frameOf(2, 3, c.at, 20, c.size)}},
			{open.with(1, "Wrap", impl.WrOn, "Content", impl.CtEnd), []impl.Frame{frameOf(2, 3, 46, 20, 10)}},
			{column, []impl.Frame{frameOf(2, c.at, 3, c.size, 20)}},
			{column.backwards(), []impl.Frame{frameOf(2, c.backAt, 3, c.size, 20)}},
			{open.with(2, "MaxHeight", point(30)), []impl.Frame{frameOf(2, 3, c.at, 20, min(c.size, 30))}},
			{open.with(2, "MinHeight", percent(100), "Self", impl.AlStretch), []impl.Frame{frameOf(2, 3, 3, 20, 60)}},
			{fixed, []impl.Frame{frameOf(2, 3, fixedAt, 20, 10)}},
			{fixed.in(exactly(100), exactly(10)), []impl.Frame{frameOf(2, 3, c.shortAt, 20, 10)}},
			// The line is no longer than the child, which has no space left to be moved in.
			{fixed.in(free(0), free(0)), []impl.Frame{frameOf(2, 3, 3, 20, 10)}},
			{open.in(free(0), free(0)), []impl.Frame{frameOf(2, 3, 3, 20, 10)}},
		})
	}
}

func TestAutoMarginsInABox(t *testing.T) {
	at := func(left, top, right, bottom impl.Value) impl.Sides {
		return impl.Sides{Left: left, Top: top, Right: right, Bottom: bottom}
	}
	for _, c := range []struct {
		first, second impl.Sides
		rtl           bool
		want          [2][2]int
	}{
		{at(auto(0), none(0), none(0), none(0)), impl.Sides{}, false, [2][2]int{{50, 0}, {70, 0}}},
		{at(none(0), none(0), auto(0), none(0)), impl.Sides{}, false, [2][2]int{{0, 0}, {70, 0}}},
		{at(auto(0), none(0), auto(0), none(0)), impl.Sides{}, false, [2][2]int{{25, 0}, {70, 0}}},
		{at(none(0), none(0), none(0), none(0)), at(auto(0), none(0), none(0), none(0)), false, [2][2]int{{0, 0}, {70, 0}}},
		{at(none(0), none(0), none(0), none(0)), at(none(0), none(0), auto(0), none(0)), false, [2][2]int{{0, 0}, {20, 0}}},
		{margin(auto(0)), margin(auto(0)), false, [2][2]int{{12, 25}, {57, 22}}},
		{at(point(4), auto(0), point(3), none(0)), at(none(0), auto(0), auto(0), point(5)), false, [2][2]int{{4, 50}, {27, 40}}},
		{at(none(0), none(0), none(0), auto(0)), at(none(0), point(5), auto(0), auto(0)), false, [2][2]int{{0, 0}, {20, 5}}},
		// From right to left, the sides of the boxes stay where they are, and the start and the end do not.
		{at(auto(0), none(0), none(0), none(0)), impl.Sides{}, true, [2][2]int{{80, 0}, {0, 0}}},
		{at(none(0), none(0), auto(0), none(0)), impl.Sides{}, true, [2][2]int{{30, 0}, {0, 0}}},
		{impl.Sides{Start: auto(0)}, impl.Sides{}, false, [2][2]int{{50, 0}, {70, 0}}},
		{impl.Sides{Start: auto(0)}, impl.Sides{}, true, [2][2]int{{30, 0}, {0, 0}}},
		{impl.Sides{Start: auto(0)}, impl.Sides{End: point(10)}, true, [2][2]int{{40, 0}, {10, 0}}},
	} {
		// Auto margins prevail over each justification and each alignment.
		for justify := impl.JsStart; justify <= impl.JsEvenly; justify++ {
			row := rowWith("Justify", justify)
			b := boxed(hosted(row, kidOf(20, 10, "Margin", c.first), kidOf(30, 15, "Margin", c.second)), exactly(100), exactly(60))
			b.rtl = c.rtl
			first, second := frameOf(2, c.want[0][0], c.want[0][1], 20, 10), frameOf(3, c.want[1][0], c.want[1][1], 30, 15)
			checkFrameCases(t, []frameCase{{b, []impl.Frame{first, second}}})
		}
	}
	for align := impl.AlStretch; align <= impl.AlBase; align++ {
		b := boxed(hosted(rowWith("Items", align), kidWith("Basis", point(20), "Margin", margin(auto(0)))), exactly(100), exactly(60)).measured(2, rule(0, 10, 10))
		checkFrameCases(t, []frameCase{
			{b, []impl.Frame{frameOf(2, 40, 25, 20, 10)}},
			{b.with(1, "Dir", impl.DrColumn), []impl.Frame{frameOf(2, 45, 20, 10, 20)}},
			// Nothing is left for them.
			{b.in(exactly(15), exactly(5)).with(2, "Height", point(10)), []impl.Frame{frameOf(2, 0, 0, 20, 10)}},
			{b.in(free(0), free(0)), []impl.Frame{frameOf(2, 0, 0, 20, 10)}},
		})
	}
}

func TestLinesOfABox(t *testing.T) {
	gaps := []any{"Wrap", impl.WrOn, "ColGap", 10, "RowGap", 5}
	row := hosted(rowWith(gaps...), kidOf(40, 10), kidOf(40, 12), kidOf(40, 8))
	open := boxed(hosted(rowWith(gaps...), kidOf(40, 10), kidWith("Width", point(40)), kidWith("Width", point(40))), exactly(90), free(0))
	open = open.with(1, "Items", impl.AlStretch)
	checkBoxCases(t, []boxCase{
		{boxed(row, exactly(90), free(0)), boxOf(90, 25, 10, frameOf(2, 0, 0, 40, 10), frameOf(3, 50, 0, 40, 12), frameOf(4, 0, 17, 40, 8))},
		{boxed(row, exactly(89), free(0)), boxOf(89, 40, 10, frameOf(2, 0, 0, 40, 10), frameOf(3, 0, 15, 40, 12), frameOf(4, 0, 32, 40, 8))},
		{boxed(row, exactly(139), free(0)), boxOf(139, 25, 10, frameOf(2, 0, 0, 40, 10), frameOf(3, 50, 0, 40, 12), frameOf(4, 0, 17, 40, 8))},
		{boxed(row, exactly(140), free(0)), boxOf(140, 12, 10, frameOf(2, 0, 0, 40, 10), frameOf(3, 50, 0, 40, 12), frameOf(4, 100, 0, 40, 8))},
		// The longest line says what is taken of a limited space.
		{boxed(row, atMost(139), free(0)), boxOf(90, 25, 10, frameOf(2, 0, 0, 40, 10), frameOf(3, 50, 0, 40, 12), frameOf(4, 0, 17, 40, 8))},
		{boxed(row, atMost(30), atMost(20)), boxOf(30, 20, 10, frameOf(2, 0, 0, 40, 10), frameOf(3, 0, 15, 40, 12), frameOf(4, 0, 32, 40, 8))},
		{boxed(row, free(0), free(0)), boxOf(140, 12, 10, frameOf(2, 0, 0, 40, 10), frameOf(3, 50, 0, 40, 12), frameOf(4, 100, 0, 40, 8))},
		{boxed(row, exactly(90), free(0)).with(1, "Wrap", impl.WrBack), boxOf(90, 25, 25, frameOf(2, 0, 15, 40, 10), frameOf(3, 50, 13, 40, 12), frameOf(4, 0, 0, 40, 8))},
		{boxed(row, exactly(90), free(0)).backwards(), boxOf(90, 25, 10, frameOf(2, 50, 0, 40, 10), frameOf(3, 0, 0, 40, 12), frameOf(4, 50, 17, 40, 8))},
		{boxed(row, exactly(90), free(0)).with(1, "Wrap", impl.WrNone), boxOf(90, 12, 10, frameOf(2, 0, 0, 40, 10), frameOf(3, 50, 0, 40, 12), frameOf(4, 100, 0, 40, 8))},
		// Each line is filled on its own.
		{boxed(row, exactly(110), free(0)).with(3, "Grow", 1).with(4, "Grow", 1), boxOf(110, 25, 10, frameOf(2, 0, 0, 40, 10), frameOf(3, 50, 0, 60, 12), frameOf(4, 0, 17, 110, 8))},
		{boxed(row, exactly(30), free(0)).with(3, "Shrink", 1), boxOf(30, 40, 10, frameOf(2, 0, 0, 40, 10), frameOf(3, 0, 15, 30, 12), frameOf(4, 0, 32, 40, 8))},
		{boxed(row, exactly(110), free(0)).with(1, "Justify", impl.JsEnd), boxOf(110, 25, 10, frameOf(2, 20, 0, 40, 10), frameOf(3, 70, 0, 40, 12), frameOf(4, 70, 17, 40, 8))},
		// A child fills its own line and not another one.
		{open, boxOf(90, 15, 10, frameOf(2, 0, 0, 40, 10), frameOf(3, 50, 0, 40, 10), frameOf(4, 0, 15, 40, 0))},
		{open.in(exactly(90), exactly(20)), boxOf(90, 20, 10, frameOf(2, 0, 0, 40, 10), frameOf(3, 50, 0, 40, 10), frameOf(4, 0, 15, 40, 0))},
		{open.in(exactly(90), exactly(20)).with(1, "Content", impl.CtStretch), boxOf(90, 20, 10, frameOf(2, 0, 0, 40, 10), frameOf(3, 50, 0, 40, 12), frameOf(4, 0, 17, 40, 3))},
		{open.in(exactly(90), atMost(20)).with(1, "Content", impl.CtStretch), boxOf(90, 15, 10, frameOf(2, 0, 0, 40, 10), frameOf(3, 50, 0, 40, 10), frameOf(4, 0, 15, 40, 0))},
		{open.in(exactly(90), exactly(20)).with(1, "Wrap", impl.WrNone), boxOf(90, 20, 10, frameOf(2, 0, 0, 40, 10), frameOf(3, 50, 0, 40, 20), frameOf(4, 100, 0, 40, 20))},
	})
	column := hosted(columnWith(gaps...), kidOf(10, 40), kidOf(12, 40), kidOf(8, 40))
	checkBoxCases(t, []boxCase{
		{boxed(column, free(0), exactly(85)), boxOf(30, 85, 10, frameOf(2, 0, 0, 10, 40), frameOf(3, 0, 45, 12, 40), frameOf(4, 22, 0, 8, 40))},
		{boxed(column, free(0), exactly(84)), boxOf(50, 84, 10, frameOf(2, 0, 0, 10, 40), frameOf(3, 20, 0, 12, 40), frameOf(4, 42, 0, 8, 40))},
		{boxed(column, free(0), exactly(85)).backwards(), boxOf(30, 85, 10, frameOf(2, 20, 0, 10, 40), frameOf(3, 18, 45, 12, 40), frameOf(4, 0, 0, 8, 40))},
		{boxed(column, free(0), free(0)), boxOf(12, 130, 10, frameOf(2, 0, 0, 10, 40), frameOf(3, 0, 45, 12, 40), frameOf(4, 0, 90, 8, 40))},
	})
}

// TestChildWithARatio has children twice as wide as high. Their other sizes are known or not, in a row and in a column.
func TestChildWithARatio(t *testing.T) {
	kid := func(fields ...any) impl.Style { return changedStyle(kidWith("Ratio", 128), fields...) }
	row := func(fields ...any) boxing { return boxed(hosted(rowWith(), kid(fields...)), exactly(100), exactly(50)) }
	column := func(fields ...any) boxing { return row(fields...).with(1, "Dir", impl.DrColumn) }
	stretched := []any{"Items", impl.AlStretch}
	checkBoxCases(t, []boxCase{
		// A known size across and an unknown one along.
		{row("Height", point(20)), boxOf(100, 50, 20, frameOf(2, 0, 0, 40, 20))},
		{row("Height", point(20)).in(free(0), free(0)), boxOf(40, 20, 20, frameOf(2, 0, 0, 40, 20))},
		{row("Height", point(20)).in(atMost(30), atMost(15)), boxOf(30, 15, 20, frameOf(2, 0, 0, 40, 20))},
		{row("Height", percent(40)), boxOf(100, 50, 20, frameOf(2, 0, 0, 40, 20))},
		{row("Height", point(20), "MinHeight", point(30)), boxOf(100, 50, 30, frameOf(2, 0, 0, 60, 30))},
		{row("Height", point(20), "MaxHeight", point(15)), boxOf(100, 50, 15, frameOf(2, 0, 0, 30, 15))},
		{row("Height", point(20), "MaxWidth", point(35)), boxOf(100, 50, 20, frameOf(2, 0, 0, 35, 20))},
		{row("Height", point(20), "Grow", 1), boxOf(100, 50, 20, frameOf(2, 0, 0, 100, 20))},
		{row("Height", point(20), "Basis", point(10)), boxOf(100, 50, 20, frameOf(2, 0, 0, 10, 20))},
		{column("Width", point(40)), boxOf(100, 50, 20, frameOf(2, 0, 0, 40, 20))},
		{column("Width", point(40)).in(free(0), free(0)), boxOf(40, 20, 20, frameOf(2, 0, 0, 40, 20))},
		{column("Width", percent(40)), boxOf(100, 50, 20, frameOf(2, 0, 0, 40, 20))},
		{column("Width", point(40), "MaxWidth", point(31)), boxOf(100, 50, 15, frameOf(2, 0, 0, 31, 15))},
		{column("Width", point(40), "Shrink", 1).in(exactly(100), exactly(5)), boxOf(100, 5, 5, frameOf(2, 0, 0, 40, 5))},
		// A known size along and an unknown one across.
		{row("Width", point(40)), boxOf(100, 50, 20, frameOf(2, 0, 0, 40, 20))},
		{row("Width", point(40)).in(free(0), free(0)), boxOf(40, 20, 20, frameOf(2, 0, 0, 40, 20))},
		{row("Width", percent(40)), boxOf(100, 50, 20, frameOf(2, 0, 0, 40, 20))},
		{row("Basis", point(40)), boxOf(100, 50, 20, frameOf(2, 0, 0, 40, 20))},
		{row("Width", point(40), "MinHeight", point(25)), boxOf(100, 50, 25, frameOf(2, 0, 0, 40, 25))},
		{row("Width", point(40), "MaxHeight", percent(20)), boxOf(100, 50, 10, frameOf(2, 0, 0, 40, 10))},
		{row("Width", point(40), "Grow", 1), boxOf(100, 50, 50, frameOf(2, 0, 0, 100, 50))},
		{row("Width", point(40), "MinWidth", point(60)), boxOf(100, 50, 30, frameOf(2, 0, 0, 60, 30))},
		{row("Width", point(40), "Shrink", 1).in(exactly(21), exactly(50)), boxOf(21, 50, 10, frameOf(2, 0, 0, 21, 10))},
		{row("Width", point(40), "Height", percent(20)).in(exactly(100), free(0)), boxOf(100, 20, 20, frameOf(2, 0, 0, 40, 20))},
		// It does not depend on the line, which is shorter than the child here.
		{row("Width", point(40), "Self", impl.AlEnd).in(exactly(100), exactly(15)), boxOf(100, 15, 15, frameOf(2, 0, -5, 40, 20))},
		{column("Height", point(20)), boxOf(100, 50, 20, frameOf(2, 0, 0, 40, 20))},
		{column("Height", point(20)).in(free(0), free(0)), boxOf(40, 20, 20, frameOf(2, 0, 0, 40, 20))},
		{column("Height", percent(40)), boxOf(100, 50, 20, frameOf(2, 0, 0, 40, 20))},
		{column("Height", point(20), "MaxWidth", percent(10)), boxOf(100, 50, 10, frameOf(2, 0, 0, 10, 20))},
		{column("Height", point(20), "Grow", 1), boxOf(100, 50, 50, frameOf(2, 0, 0, 100, 50))},
		// Both are known.
		{row("Width", point(30), "Height", point(20)), boxOf(100, 50, 20, frameOf(2, 0, 0, 30, 20))},
		{row("Width", point(30), "Height", point(20), "Grow", 1), boxOf(100, 50, 20, frameOf(2, 0, 0, 100, 20))},
		{column("Width", point(30), "Height", point(20)), boxOf(100, 50, 20, frameOf(2, 0, 0, 30, 20))},
		{column("Width", point(30), "Height", point(20)).in(free(0), free(0)), boxOf(30, 20, 20, frameOf(2, 0, 0, 30, 20))},
		// Neither is: content and growing give the size along, and this one the size across.
		{row(), boxOf(100, 50, 0, frameOf(2, 0, 0, 0, 0))},
		{row("Grow", 1), boxOf(100, 50, 50, frameOf(2, 0, 0, 100, 50))},
		{row("Grow", 1, "Self", impl.AlCenter).in(exactly(100), exactly(30)), boxOf(100, 30, 40, frameOf(2, 0, -10, 100, 50))},
		{row().measured(2, rule(0, 30, 10)), boxOf(100, 50, 15, frameOf(2, 0, 0, 30, 15))},
		{row().measured(2, rule(0, 30, 10)).in(free(0), free(0)), boxOf(30, 15, 15, frameOf(2, 0, 0, 30, 15))},
		{row("Pad", edgesOf(6)).measured(2, rule(0, 30, 10)), boxOf(100, 50, 21, frameOf(2, 0, 0, 42, 21))},
		{row("Pad", edgesOf(6)), boxOf(100, 50, 12, frameOf(2, 0, 0, 12, 12))},
		{row("Height", percent(40), "Width", percent(40)).in(free(0), free(0)), boxOf(0, 0, 0, frameOf(2, 0, 0, 0, 0))},
		{column().measured(2, rule(0, 30, 10)), boxOf(100, 50, 10, frameOf(2, 0, 0, 20, 10))},
		{column("Grow", 1), boxOf(100, 50, 50, frameOf(2, 0, 0, 100, 50))},
		// A child that fills its line has its size across from this, if it is known, and not from the ratio.
		{row("Width", point(40)).with(1, stretched...), boxOf(100, 50, 50, frameOf(2, 0, 0, 40, 50))},
		{row().with(1, stretched...), boxOf(100, 50, 50, frameOf(2, 0, 0, 100, 50))},
		{row().with(1, stretched...).in(free(0), exactly(50)), boxOf(100, 50, 50, frameOf(2, 0, 0, 100, 50))},
		{row("Margin", margin(point(5))).with(1, stretched...).in(free(0), exactly(50)), boxOf(90, 50, 45, frameOf(2, 5, 5, 80, 40))},
		{column().with(1, stretched...), boxOf(100, 50, 50, frameOf(2, 0, 0, 100, 50))},
		{column("Height", point(20)).with(1, stretched...), boxOf(100, 50, 20, frameOf(2, 0, 0, 100, 20))},
		{column("Shrink", 1).with(1, stretched...).in(exactly(100), exactly(30)), boxOf(100, 30, 30, frameOf(2, 0, 0, 100, 30))},
		// If it is not known, the ratio comes first.
		{row("Width", point(40)).with(1, stretched...).in(exactly(100), free(0)), boxOf(100, 20, 20, frameOf(2, 0, 0, 40, 20))},
		{row("Width", point(40)).with(1, stretched...).in(exactly(100), atMost(50)), boxOf(100, 20, 20, frameOf(2, 0, 0, 40, 20))},
		{row("Width", point(40)).with(1, "Items", impl.AlStretch, "Wrap", impl.WrOn), boxOf(100, 50, 20, frameOf(2, 0, 0, 40, 20))},
		{row("Width", point(40)).with(1, "Items", impl.AlStretch, "Wrap", impl.WrOn, "Content", impl.CtStretch), boxOf(100, 50, 20, frameOf(2, 0, 0, 40, 20))},
		{row("Width", point(40), "Margin", impl.Sides{Top: auto(0)}).with(1, stretched...), boxOf(100, 50, 50, frameOf(2, 0, 30, 40, 20))},
		{column("Height", point(20)).with(1, stretched...).in(free(0), exactly(50)), boxOf(40, 50, 20, frameOf(2, 0, 0, 40, 20))},
		// Without a ratio it would fill the line.
		{row("Width", point(40), "Ratio", 0).with(1, "Items", impl.AlStretch, "Wrap", impl.WrOn, "Content", impl.CtStretch), boxOf(100, 50, 0, frameOf(2, 0, 0, 40, 50))},
	})
}

func TestRatioBesideALongerChild(t *testing.T) {
	row := boxed(hosted(rowWith("Items", impl.AlStretch), kidWith("Ratio", 128, "Width", point(40)), kidOf(10, 30), kidWith("Width", point(5))), exactly(100), free(0))
	column := boxed(hosted(columnWith("Items", impl.AlStretch), kidWith("Ratio", 128, "Height", point(20)), kidOf(70, 10), kidWith("Height", point(5))), free(0), exactly(100))
	checkBoxCases(t, []boxCase{
		{row, boxOf(100, 30, 20, frameOf(2, 0, 0, 40, 20), frameOf(3, 40, 0, 10, 30), frameOf(4, 50, 0, 5, 30))},
		{row.in(exactly(100), exactly(25)), boxOf(100, 25, 25, frameOf(2, 0, 0, 40, 25), frameOf(3, 40, 0, 10, 30), frameOf(4, 50, 0, 5, 25))},
		{row.with(2, "Self", impl.AlEnd), boxOf(100, 30, 30, frameOf(2, 0, 10, 40, 20), frameOf(3, 40, 0, 10, 30), frameOf(4, 50, 0, 5, 30))},
		{column, boxOf(70, 100, 20, frameOf(2, 0, 0, 40, 20), frameOf(3, 0, 20, 70, 10), frameOf(4, 0, 30, 70, 5))},
		{column.backwards(), boxOf(70, 100, 20, frameOf(2, 30, 0, 40, 20), frameOf(3, 0, 20, 70, 10), frameOf(4, 0, 30, 70, 5))},
	})
}

func TestRatioIsRoundedDown(t *testing.T) {
	for _, c := range []struct {
		ratio, wide, high int
		// The width for the height, and the height for the width.
		wantWide, wantHigh int
	}{
		{64, 7, 7, 7, 7}, {100, 10, 7, 10, 6}, {1, 10, 63, 0, 640}, {1, 10, 64, 1, 640}, {63, 10, 65, 63, 10},
		{6400, 99, 3, 300, 0}, {6400, 100, 3, 300, 1}, {65, 0, 0, 0, 0}, {6400, impl.MaxLen, impl.MaxLen, impl.MaxLen, 10485},
	} {
		for _, dir := range []int{impl.DrRow, impl.DrColumn} {
			b := boxed(hosted(rowWith("Dir", dir), kidWith("Ratio", c.ratio, "Height", point(c.high)), kidWith("Ratio", c.ratio, "Width", point(c.wide))), free(0), free(0))
			frames := b.frames()
			if frames[0].Wide != c.wantWide || frames[0].High != c.high || frames[1].Wide != c.wide || frames[1].High != c.wantHigh {
				t.Errorf("the frames %+v of %v", frames, b)
			}
			checkBox(t, b)
		}
	}
}

func TestChildrenWithChildren(t *testing.T) {
	ups := []int{0, 1, 2, 2}
	column := boxed(nested(ups, columnWith(), rowWith(), kidOf(20, 10), kidOf(30, 15)), free(0), free(0))
	wrapping := column.with(2, "Wrap", impl.WrOn)
	row := boxed(nested(ups, rowWith(), columnWith(), kidOf(20, 10), kidOf(30, 15)), free(0), free(0))
	checkBoxCases(t, []boxCase{
		// The content of a child is what its own children take up.
		{column, boxOf(50, 15, 10, frameOf(2, 0, 0, 50, 15))},
		{column.in(exactly(100), exactly(100)), boxOf(100, 100, 10, frameOf(2, 0, 0, 50, 15))},
		{column.in(exactly(30), exactly(100)), boxOf(30, 100, 10, frameOf(2, 0, 0, 30, 15))},
		{column.with(1, "Items", impl.AlStretch).in(exactly(100), free(0)), boxOf(100, 15, 10, frameOf(2, 0, 0, 100, 15))},
		{column.with(2, "Pad", edgesOf(4)), boxOf(58, 23, 14, frameOf(2, 0, 0, 58, 23))},
		{column.with(2, "Pad", edgesOf(4)).with(1, "Pad", edgesOf(100)), boxOf(258, 223, 114, frameOf(2, 100, 100, 58, 23))},
		{column.with(2, "ColGap", 7), boxOf(57, 15, 10, frameOf(2, 0, 0, 57, 15))},
		{column.with(2, "Height", point(40)), boxOf(50, 40, 10, frameOf(2, 0, 0, 50, 40))},
		// It is broken into lines in the width that there is, and is higher then.
		{wrapping.in(exactly(50), free(0)), boxOf(50, 15, 10, frameOf(2, 0, 0, 50, 15))},
		{wrapping.in(exactly(49), free(0)), boxOf(49, 25, 10, frameOf(2, 0, 0, 30, 25))},
		{wrapping.with(1, "Items", impl.AlStretch).in(exactly(49), free(0)), boxOf(49, 25, 10, frameOf(2, 0, 0, 49, 25))},
		{wrapping.with(2, "Margin", margin(point(1))).in(exactly(51), free(0)), boxOf(51, 27, 11, frameOf(2, 1, 1, 30, 25))},
		{wrapping.with(2, "Width", point(45)).in(exactly(500), free(0)), boxOf(500, 25, 10, frameOf(2, 0, 0, 45, 25))},
		{wrapping.with(2, "MaxWidth", point(45)).in(exactly(500), free(0)), boxOf(500, 15, 10, frameOf(2, 0, 0, 45, 15))},
		{row, boxOf(30, 25, 10, frameOf(2, 0, 0, 30, 25))},
		{row.in(exactly(100), exactly(100)), boxOf(100, 100, 10, frameOf(2, 0, 0, 30, 25))},
		{row.with(2, "Grow", 1).in(exactly(100), exactly(100)), boxOf(100, 100, 10, frameOf(2, 0, 0, 100, 25))},
		{row.with(1, "Items", impl.AlStretch).in(exactly(100), exactly(100)), boxOf(100, 100, 10, frameOf(2, 0, 0, 30, 100))},
		// A child that gets more space lays out its own children in all of it, which moves its baseline here.
		{row.with(2, "Justify", impl.JsEnd, "Self", impl.AlStretch).in(exactly(100), exactly(100)), boxOf(100, 100, 85, frameOf(2, 0, 0, 30, 100))},
		// Each node in turn.
		{column.at(2), boxOf(50, 15, 10, frameOf(3, 0, 0, 20, 10), frameOf(4, 20, 0, 30, 15))},
		{column.at(3), boxOf(0, 0, 0)},
		{column.at(4).in(exactly(5), atMost(5)), boxOf(5, 0, 0)},
	})
}

func TestBoxesOfTheGreatestDepth(t *testing.T) {
	s := changedStyle(padded(columnWith()), "Margin", margin(point(1)))
	b := boxed(nested([]int{0, 1, 2, 3}, s, s, s, padded(s)), free(0), free(0))
	checkBoxCases(t, []boxCase{
		// Each one adds 7 and 11, and those with a parent another 2 each.
		{b, boxOf(34, 50, 25, frameOf(2, 4, 6, 25, 37))},
		{b.at(2), boxOf(25, 37, 19, frameOf(3, 4, 6, 16, 24))},
		{b.at(3), boxOf(16, 24, 13, frameOf(4, 4, 6, 7, 11))},
		{b.at(4), boxOf(7, 11, 11)},
		{b.measured(4, rule(0, 100, 200)), boxOf(134, 250, 125, frameOf(2, 4, 6, 125, 237))},
		{b.measured(4, rule(0, 100, 200)).in(exactly(50), exactly(60)), boxOf(50, 60, 41, frameOf(2, 4, 6, 41, 237))},
	})
}

// TestMeasuredChildren has children whose height depends on the width that they get.
func TestMeasuredChildren(t *testing.T) {
	wide, high := rule(100, 80, 10), rule(20, 15, 60)
	column := boxed(hosted(columnWith("Items", impl.AlStretch), kidWith(), kidOf(10, 10)), exactly(100), free(0)).measured(2, wide, high)
	row := boxed(hosted(rowWith("Items", impl.AlStretch), kidWith("Shrink", 1), kidOf(10, 10)), exactly(100), free(0)).measured(2, wide, high)
	checkBoxCases(t, []boxCase{
		{column, boxOf(100, 20, 10, frameOf(2, 0, 0, 100, 10), frameOf(3, 0, 10, 10, 10))},
		{column.in(exactly(99), free(0)), boxOf(99, 70, 60, frameOf(2, 0, 0, 99, 60), frameOf(3, 0, 60, 10, 10))},
		{column.in(atMost(99), free(0)), boxOf(15, 70, 15, frameOf(2, 0, 0, 15, 60), frameOf(3, 0, 60, 10, 10))},
		{column.in(exactly(99), exactly(30)), boxOf(99, 30, 60, frameOf(2, 0, 0, 99, 60), frameOf(3, 0, 60, 10, 10))},
		{column.in(exactly(19), free(0)), boxOf(19, 10, 0, frameOf(2, 0, 0, 19, 0), frameOf(3, 0, 0, 10, 10))},
		{row, boxOf(100, 60, 60, frameOf(2, 0, 0, 80, 60), frameOf(3, 80, 0, 10, 10))},
		{row.in(exactly(200), free(0)).with(2, "Grow", 1), boxOf(200, 10, 10, frameOf(2, 0, 0, 190, 10), frameOf(3, 190, 0, 10, 10))},
		// Its width follows from the 50, and its height from this width, for which there is no rule.
		{row.in(exactly(50), free(0)), boxOf(50, 10, 0, frameOf(2, 0, 0, 15, 10), frameOf(3, 15, 0, 10, 10))},
		{row.in(free(0), free(0)), boxOf(90, 60, 60, frameOf(2, 0, 0, 80, 60), frameOf(3, 80, 0, 10, 10))},
		{row.in(exactly(100), exactly(40)), boxOf(100, 40, 40, frameOf(2, 0, 0, 80, 40), frameOf(3, 80, 0, 10, 10))},
	})
}

func TestBaselinesInABox(t *testing.T) {
	// Node 3 has its baseline at 10, as its child has, and node 2 at its lower edge.
	b := boxed(nested([]int{0, 1, 1, 3}, rowWith("Items", impl.AlBase), kidOf(5, 20), columnWith("Height", point(50)), kidOf(15, 10)), free(0), free(0))
	checkBoxCases(t, []boxCase{
		{b, boxOf(20, 60, 20, frameOf(2, 0, 0, 5, 20), frameOf(3, 5, 10, 15, 50))},
		{b.with(3, "Pad", impl.Edges{Top: 15}), boxOf(20, 50, 25, frameOf(2, 0, 5, 5, 20), frameOf(3, 5, 0, 15, 50))},
		{b.with(4, "Margin", impl.Sides{Top: point(3)}), boxOf(20, 57, 20, frameOf(2, 0, 0, 5, 20), frameOf(3, 5, 7, 15, 50))},
		{b.in(exactly(20), exactly(30)), boxOf(20, 30, 20, frameOf(2, 0, 0, 5, 20), frameOf(3, 5, 10, 15, 50))},
		{b.with(1, "Pad", edgesOf(7)), boxOf(34, 74, 27, frameOf(2, 7, 7, 5, 20), frameOf(3, 12, 17, 15, 50))},
		{b.with(2, "Margin", impl.Sides{Top: point(3), Bottom: point(90)}), boxOf(20, 113, 23, frameOf(2, 0, 3, 5, 20), frameOf(3, 5, 13, 15, 50))},
		// Only one of them is on the baseline.
		{b.with(2, "Self", impl.AlStart), boxOf(20, 50, 20, frameOf(2, 0, 0, 5, 20), frameOf(3, 5, 0, 15, 50))},
		{b.with(3, "Margin", impl.Sides{Top: auto(0)}), boxOf(20, 50, 20, frameOf(2, 0, 0, 5, 20), frameOf(3, 5, 0, 15, 50))},
		// A baseline at each line.
		{b.with(1, "Wrap", impl.WrOn).in(exactly(19), free(0)), boxOf(19, 70, 20, frameOf(2, 0, 0, 5, 20), frameOf(3, 0, 20, 15, 50))},
		{b.with(1, "Wrap", impl.WrBack), boxOf(20, 60, 60, frameOf(2, 0, 40, 5, 20), frameOf(3, 5, 0, 15, 50))},
		// There is none in a column, in which the width of a child limits the distance of its own one.
		{b.with(1, "Dir", impl.DrColumn), boxOf(15, 70, 5, frameOf(2, 0, 0, 5, 20), frameOf(3, 0, 20, 15, 50))},
		{b.with(4, "Width", point(5)), boxOf(10, 65, 20, frameOf(2, 0, 0, 5, 20), frameOf(3, 5, 15, 5, 50))},
	})
}

// TestBaselineOfABox is about the first child in the flow, wherever it is.
func TestBaselineOfABox(t *testing.T) {
	row := boxed(hosted(rowWith(), kidOf(20, 10), kidOf(30, 15)), exactly(100), exactly(60))
	most := point(impl.MaxLen)
	for _, c := range []struct {
		boxing
		want int
	}{
		{row, 10},
		{row.backwards(), 10},
		{row.with(3, "Order", -1), 15},
		{row.with(2, "Order", 1), 15},
		{row.with(2, "Hidden", true), 15},
		{row.with(2, "Apart", true), 15},
		{row.with(2, "Hidden", true).with(3, "Apart", true), 60},
		{row.with(1, "Items", impl.AlEnd), 60},
		{row.with(1, "Items", impl.AlEnd, "Pad", edgesOf(5)), 55},
		{row.with(1, "Items", impl.AlCenter), 35},
		{row.with(1, "Dir", impl.DrColumn), 10},
		{row.with(1, "Dir", impl.DrColumnBack), 60},
		{row.with(1, "Dir", impl.DrColumnBack, "Justify", impl.JsEnd), 25},
		{row.with(2, "Margin", impl.Sides{Top: point(-8)}), 2},
		// It stays in the range of a length.
		{row.with(2, "Margin", impl.Sides{Top: point(-11)}), 0},
		{row.with(2, "Margin", impl.Sides{Bottom: most}, "Self", impl.AlEnd), 0},
		{row.with(2, "Height", most).with(1, "Pad", edgesOf(1)), impl.MaxLen},
		{row.with(2, "Margin", impl.Sides{Top: most}), impl.MaxLen},
		// In a column, the width of the child limits the distance within it.
		{row.with(1, "Dir", impl.DrColumn).with(2, "Width", point(7)), 7},
		{row.with(1, "Dir", impl.DrColumn).with(2, "Width", point(7), "Margin", impl.Sides{Top: point(9)}), 16},
	} {
		if got := c.sizedBox().Base; got != c.want {
			t.Errorf("the baseline %d, not %d, of %v", got, c.want, c.boxing)
		}
		checkBox(t, c.boxing)
	}
}

func TestOnlyChildrenInTheFlowAreLaidOut(t *testing.T) {
	styles := []impl.Style{kidOf(20, 10, "Order", 5), kidOf(30, 15, "Apart", true), kidOf(40, 25, "Hidden", true), kidOf(50, 35, "Order", -5), kidOf(60, 45, "Order", 5, "Grow", 1)}
	b := boxed(hosted(rowWith(), styles...), exactly(200), free(0))
	checkBoxCases(t, []boxCase{
		{b, boxOf(200, 45, 35, frameOf(5, 0, 0, 50, 35), frameOf(2, 50, 0, 20, 10), frameOf(6, 70, 0, 130, 45))},
		{b.backwards(), boxOf(200, 45, 35, frameOf(5, 150, 0, 50, 35), frameOf(2, 130, 0, 20, 10), frameOf(6, 0, 0, 130, 45))},
		{b.with(6, "Order", -1000), boxOf(200, 45, 45, frameOf(6, 0, 0, 130, 45), frameOf(5, 130, 0, 50, 35), frameOf(2, 180, 0, 20, 10))},
		{b.with(1, "Wrap", impl.WrOn).in(exactly(100), free(0)), boxOf(100, 80, 35, frameOf(5, 0, 0, 50, 35), frameOf(2, 50, 0, 20, 10), frameOf(6, 0, 35, 100, 45))},
		{b.with(5, "Apart", true), boxOf(200, 45, 10, frameOf(2, 0, 0, 20, 10), frameOf(6, 20, 0, 180, 45))},
		{b.with(2, "Hidden", true).with(5, "Hidden", true).with(6, "Apart", true), boxOf(200, 0, 0)},
		// A host that is gone itself is laid out like any other one.
		{b.with(1, "Hidden", true), boxOf(200, 45, 35, frameOf(5, 0, 0, 50, 35), frameOf(2, 50, 0, 20, 10), frameOf(6, 70, 0, 130, 45))},
	})
	b.tree = withKids(b.tree, 1, 6, 5, 4, 3, 2)
	checkBoxCases(t, []boxCase{
		{b, boxOf(200, 45, 35, frameOf(5, 0, 0, 50, 35), frameOf(6, 50, 0, 130, 45), frameOf(2, 180, 0, 20, 10))},
	})
	if items := b.kidItems(); len(items) != 3 || items[1] != item(60, 0, -1, 1, 0) {
		t.Errorf("KidItems = %+v of %v", items, b)
	}
	// The others are no kids for the functions that have one as an argument.
	for _, kid := range append([]int{3, 4, 1}, nodeNumbers()...) {
		if kid != 2 && kid != 5 && kid != 6 {
			checkNoKid(t, b, kid)
		}
	}
}

func TestKidsOfOtherNodes(t *testing.T) {
	b := boxed(nested([]int{0, 1, 2, 3, 1}, rowWith(), rowWith(), rowWith(), kidOf(1, 2), kidOf(3, 4)), exactly(90), exactly(80))
	kids := map[int][]int{1: {2, 5}, 2: {3}, 3: {4}}
	for n := 1; n <= 5; n++ {
		for kid := -1; kid <= 6; kid++ {
			b := b.at(n)
			switch {
			case !slices.Contains(kids[n], kid):
				checkNoKid(t, b, kid)
			case b.kidCross(kid) == impl.Space{}:
				t.Errorf("KidCross of %d of %v", kid, b)
			}
		}
		checkBox(t, b.at(n))
	}
}
