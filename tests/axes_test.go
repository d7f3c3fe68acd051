package tests

import (
	"math"
	"math/big"
	"reflect"
	"testing"

	"loop.example/g00972/impl"
)

// choiceNumbers holds each number of a choice, those just outside, numbers with the lowest bits of one, and the ends of int.
func choiceNumbers() []int {
	list := []int{math.MinInt, math.MinInt + 1, math.MaxInt - 1, math.MaxInt}
	for n := -2; n <= 8; n++ {
		list = append(list, n)
	}
	for n := 1; n <= 5; n++ {
		list = append(list, math.MinInt+n, -1<<32+n, 1<<8+n, 1<<32+n)
	}
	return list
}

// axisStyle returns s with another direction and another wrapping.
func axisStyle(s impl.Style, dir int, wrap int) impl.Style {
	s.Dir, s.Wrap = dir, wrap
	return s
}

// An axis is what the chapter says of one axis.
type axis struct {
	back       bool
	begin, end int
}

func mainAxis(s impl.Style, rtl bool) axis {
	begin, end := impl.MainSides(s, rtl)
	return axis{impl.MainBack(s, rtl), begin, end}
}

func crossAxis(s impl.Style, rtl bool) axis {
	begin, end := impl.CrossSides(s, rtl)
	return axis{impl.CrossBack(s, rtl), begin, end}
}

// wantRow, wantMain and wantCross follow the sentences of the document and share nothing with the program.
func wantRow(dir int) bool { return map[int]bool{1: true, 3: true}[dir] }

func wantMain(dir int, rtl bool) axis {
	type place struct {
		dir int
		rtl bool
	}
	back := map[place]bool{{1, true}: true, {3, false}: true, {4, false}: true, {4, true}: true}[place{dir, rtl}]
	return wantAxis(wantRow(dir), back)
}

func wantCross(dir int, wrap int, rtl bool) axis {
	holds := 0
	if wrap == 3 {
		holds++
	}
	if rtl && !wantRow(dir) {
		holds++
	}
	return wantAxis(!wantRow(dir), holds == 1)
}

func wantAxis(horizontal bool, back bool) axis {
	return map[[2]bool]axis{
		{true, false}:  {false, 0, 2},
		{true, true}:   {true, 2, 0},
		{false, false}: {false, 1, 3},
		{false, true}:  {true, 3, 1},
	}[[2]bool{horizontal, back}]
}

// wrapped is n as an int of 64 bits has it.
func wrapped(n *big.Int) int {
	return int(new(big.Int).And(n, new(big.Int).SetUint64(math.MaxUint64)).Uint64())
}

func TestIsRow(t *testing.T) {
	for _, c := range []struct {
		dir  int
		want bool
	}{
		{impl.DrRow, true},
		{impl.DrColumn, false},
		{impl.DrRowBack, true},
		{impl.DrColumnBack, false},
		{impl.DrRow - 1, false},
		{impl.DrColumnBack + 1, false},
		{-impl.DrRow, false},
		{-impl.DrRowBack, false},
		{math.MinInt, false},
		{math.MaxInt, false},
	} {
		for _, s := range anyStyles() {
			if got := impl.IsRow(axisStyle(s, c.dir, s.Wrap)); got != c.want {
				t.Errorf("IsRow with the direction %d = %v", c.dir, got)
			}
		}
	}
}

func TestMainAxis(t *testing.T) {
	for _, c := range []struct {
		dir  int
		rtl  bool
		want axis
	}{
		{impl.DrRow, false, axis{false, impl.SdLeft, impl.SdRight}},
		{impl.DrRow, true, axis{true, impl.SdRight, impl.SdLeft}},
		{impl.DrRowBack, false, axis{true, impl.SdRight, impl.SdLeft}},
		// Both reversals at once.
		{impl.DrRowBack, true, axis{false, impl.SdLeft, impl.SdRight}},
		// A column runs in its own direction in both orders.
		{impl.DrColumn, false, axis{false, impl.SdTop, impl.SdBottom}},
		{impl.DrColumn, true, axis{false, impl.SdTop, impl.SdBottom}},
		{impl.DrColumnBack, false, axis{true, impl.SdBottom, impl.SdTop}},
		{impl.DrColumnBack, true, axis{true, impl.SdBottom, impl.SdTop}},
		// A direction that does not exist is no row and never reversed.
		{impl.DrRow - 1, false, axis{false, impl.SdTop, impl.SdBottom}},
		{impl.DrRow - 1, true, axis{false, impl.SdTop, impl.SdBottom}},
		{impl.DrColumnBack + 1, false, axis{false, impl.SdTop, impl.SdBottom}},
		{impl.DrColumnBack + 1, true, axis{false, impl.SdTop, impl.SdBottom}},
		{math.MinInt, false, axis{false, impl.SdTop, impl.SdBottom}},
		{math.MinInt, true, axis{false, impl.SdTop, impl.SdBottom}},
		{math.MaxInt, false, axis{false, impl.SdTop, impl.SdBottom}},
		{math.MaxInt, true, axis{false, impl.SdTop, impl.SdBottom}},
	} {
		// The wrapping does not reverse the main axis.
		for _, wrap := range choiceNumbers() {
			if got := mainAxis(axisStyle(impl.StyleNew(), c.dir, wrap), c.rtl); got != c.want {
				t.Errorf("with the direction %d and the wrapping %d in order %v, the main axis is %v, not %v", c.dir, wrap, c.rtl, got, c.want)
			}
		}
	}
}

func TestCrossAxis(t *testing.T) {
	down := axis{false, impl.SdTop, impl.SdBottom}
	up := axis{true, impl.SdBottom, impl.SdTop}
	right := axis{false, impl.SdLeft, impl.SdRight}
	left := axis{true, impl.SdRight, impl.SdLeft}
	rows := []int{impl.DrRow, impl.DrRowBack}
	columns := []int{impl.DrColumn, impl.DrColumnBack, impl.DrRow - 1, impl.DrColumnBack + 1, math.MinInt, math.MaxInt}
	for _, c := range []struct {
		dirs []int
		wrap int
		rtl  bool
		want axis
	}{
		// The lines of a row are above each other, so the order does not reverse them.
		{rows, impl.WrNone, false, down},
		{rows, impl.WrNone, true, down},
		{rows, impl.WrOn, false, down},
		{rows, impl.WrOn, true, down},
		{rows, impl.WrBack, false, up},
		{rows, impl.WrBack, true, up},
		{columns, impl.WrNone, false, right},
		{columns, impl.WrNone, true, left},
		{columns, impl.WrOn, false, right},
		{columns, impl.WrOn, true, left},
		{columns, impl.WrBack, false, left},
		// Both reversals at once.
		{columns, impl.WrBack, true, right},
		// A wrapping that does not exist reverses nothing.
		{rows, impl.WrNone - 1, false, down},
		{rows, impl.WrNone - 1, true, down},
		{rows, impl.WrBack + 1, false, down},
		{rows, impl.WrBack + 1, true, down},
		{rows, math.MinInt, false, down},
		{rows, math.MinInt, true, down},
		{rows, math.MaxInt, false, down},
		{rows, math.MaxInt, true, down},
		{columns, impl.WrNone - 1, false, right},
		{columns, impl.WrNone - 1, true, left},
		{columns, impl.WrBack + 1, false, right},
		{columns, impl.WrBack + 1, true, left},
		{columns, math.MinInt, false, right},
		{columns, math.MinInt, true, left},
		{columns, math.MaxInt, false, right},
		{columns, math.MaxInt, true, left},
	} {
		for _, dir := range c.dirs {
			if got := crossAxis(axisStyle(impl.StyleNew(), dir, c.wrap), c.rtl); got != c.want {
				t.Errorf("with the direction %d and the wrapping %d in order %v, the cross axis is %v, not %v", dir, c.wrap, c.rtl, got, c.want)
			}
		}
	}
}

func TestAxesOfAnyStyle(t *testing.T) {
	for _, base := range anyStyles() {
		for _, dir := range choiceNumbers() {
			for _, wrap := range choiceNumbers() {
				s := axisStyle(base, dir, wrap)
				if got := impl.IsRow(s); got != wantRow(dir) {
					t.Errorf("IsRow with the direction %d = %v", dir, got)
				}
				for _, rtl := range bothOrders() {
					if got, want := mainAxis(s, rtl), wantMain(dir, rtl); got != want {
						t.Errorf("with the direction %d and the wrapping %d in order %v, the main axis is %v, not %v", dir, wrap, rtl, got, want)
					}
					if got, want := crossAxis(s, rtl), wantCross(dir, wrap, rtl); got != want {
						t.Errorf("with the direction %d and the wrapping %d in order %v, the cross axis is %v, not %v", dir, wrap, rtl, got, want)
					}
				}
			}
		}
	}
}

func TestAxesHaveTheFourSides(t *testing.T) {
	opposite := map[int]int{impl.SdLeft: impl.SdRight, impl.SdTop: impl.SdBottom, impl.SdRight: impl.SdLeft, impl.SdBottom: impl.SdTop}
	for _, dir := range choiceNumbers() {
		for _, wrap := range choiceNumbers() {
			for _, rtl := range bothOrders() {
				s := axisStyle(impl.StyleNew(), dir, wrap)
				along, across := mainAxis(s, rtl), crossAxis(s, rtl)
				for _, a := range []axis{along, across} {
					if opposite[a.begin] != a.end || opposite[a.end] != a.begin {
						t.Errorf("with the direction %d and the wrapping %d in order %v, an axis runs from %d to %d", dir, wrap, rtl, a.begin, a.end)
					}
				}
				if along.begin == across.begin || along.begin == across.end {
					t.Errorf("with the direction %d and the wrapping %d in order %v, both axes have the side %d", dir, wrap, rtl, along.begin)
				}
				// The other order reverses the horizontal axis and no other.
				turnedAlong := along != mainAxis(s, !rtl)
				turnedAcross := across != crossAxis(s, !rtl)
				if turnedAlong != impl.IsRow(s) || turnedAcross == impl.IsRow(s) {
					t.Errorf("with the direction %d and the wrapping %d, the other order reverses the main axis: %v, the cross axis: %v", dir, wrap, turnedAlong, turnedAcross)
				}
			}
		}
	}
}

func TestAxesDependOnDirAndWrapAlone(t *testing.T) {
	for _, s := range anyStyles() {
		for path, changed := range changedStyles(s) {
			for _, rtl := range bothOrders() {
				if path != ".Dir" && (impl.IsRow(changed) != impl.IsRow(s) || mainAxis(changed, rtl) != mainAxis(s, rtl)) {
					t.Errorf("a change of %s changes the main axis in order %v", path, rtl)
				}
				if path != ".Dir" && path != ".Wrap" && crossAxis(changed, rtl) != crossAxis(s, rtl) {
					t.Errorf("a change of %s changes the cross axis in order %v", path, rtl)
				}
			}
		}
	}
}

// TestAlignOf takes each alignment from Items and from Self.
func TestAlignOf(t *testing.T) {
	for _, c := range []struct {
		align, row, column int
	}{
		{impl.AlStretch, impl.AlStretch, impl.AlStretch},
		{impl.AlStart, impl.AlStart, impl.AlStart},
		{impl.AlEnd, impl.AlEnd, impl.AlEnd},
		{impl.AlCenter, impl.AlCenter, impl.AlCenter},
		// There is no baseline in a column.
		{impl.AlBase, impl.AlBase, impl.AlStart},
		// A number that is no alignment is returned as it is.
		{impl.AlAuto - 1, impl.AlAuto - 1, impl.AlAuto - 1},
		{impl.AlBase + 1, impl.AlBase + 1, impl.AlBase + 1},
		{math.MinInt, math.MinInt, math.MinInt},
		{math.MaxInt, math.MaxInt, math.MaxInt},
	} {
		for _, dir := range choiceNumbers() {
			want := c.column
			if dir == impl.DrRow || dir == impl.DrRowBack {
				want = c.row
			}
			s, kid := axisStyle(impl.StyleNew(), dir, impl.WrNone), impl.StyleNew()
			s.Items, kid.Self = c.align, impl.AlAuto
			if got := impl.AlignOf(s, kid); got != want {
				t.Errorf("AlignOf with the direction %d and Items %d = %d, not %d", dir, c.align, got, want)
			}
			// Self takes precedence, whatever Items is.
			for _, items := range choiceNumbers() {
				s.Items, kid.Self = items, c.align
				if got := impl.AlignOf(s, kid); got != want {
					t.Errorf("AlignOf with the direction %d, Items %d and Self %d = %d, not %d", dir, items, c.align, got, want)
				}
			}
		}
	}
}

func TestAlignOfWithoutAnyAlignment(t *testing.T) {
	for _, dir := range choiceNumbers() {
		s, kid := axisStyle(impl.StyleNew(), dir, impl.WrOn), impl.StyleNew()
		s.Items, kid.Self = impl.AlAuto, impl.AlAuto
		// The alignment of the box itself is not one of its children's.
		for _, self := range choiceNumbers() {
			s.Self, kid.Items = self, self
			if got := impl.AlignOf(s, kid); got != impl.AlAuto {
				t.Errorf("AlignOf with the direction %d, where both are AlAuto, = %d", dir, got)
			}
		}
	}
}

func TestAlignOfTakesTheDirectionOfTheParent(t *testing.T) {
	for _, c := range []struct {
		dir, kid, want int
	}{
		{impl.DrRow, impl.DrColumn, impl.AlBase},
		{impl.DrRowBack, impl.DrColumnBack, impl.AlBase},
		{impl.DrRow, impl.DrRow, impl.AlBase},
		{impl.DrColumn, impl.DrRow, impl.AlStart},
		{impl.DrColumnBack, impl.DrRowBack, impl.AlStart},
		{impl.DrColumn, impl.DrColumn, impl.AlStart},
		{impl.DrRow - 1, impl.DrRow, impl.AlStart},
		{impl.DrColumnBack + 1, impl.DrRow, impl.AlStart},
	} {
		s, kid := axisStyle(impl.StyleNew(), c.dir, impl.WrNone), axisStyle(impl.StyleNew(), c.kid, impl.WrNone)
		s.Items, kid.Self = impl.AlBase, impl.AlAuto
		if got := impl.AlignOf(s, kid); got != c.want {
			t.Errorf("AlignOf with the directions %d and %d and AlBase from Items = %d, not %d", c.dir, c.kid, got, c.want)
		}
		s.Items, kid.Self = impl.AlEnd, impl.AlBase
		if got := impl.AlignOf(s, kid); got != c.want {
			t.Errorf("AlignOf with the directions %d and %d and AlBase from Self = %d, not %d", c.dir, c.kid, got, c.want)
		}
	}
}

func TestAlignOfDependsOnThreeFieldsAlone(t *testing.T) {
	for _, s := range anyStyles() {
		for _, kid := range anyStyles() {
			want := impl.AlignOf(s, kid)
			for path, changed := range changedStyles(s) {
				if got := impl.AlignOf(changed, kid); path != ".Dir" && path != ".Items" && got != want {
					t.Errorf("a change of %s changes AlignOf from %d to %d", path, want, got)
				}
			}
			for path, changed := range changedStyles(kid) {
				if got := impl.AlignOf(s, changed); path != ".Self" && got != want {
					t.Errorf("a change of %s of the child changes AlignOf from %d to %d", path, want, got)
				}
			}
		}
	}
}

func TestAlignOfValidStylesIsAnAlignment(t *testing.T) {
	for _, s := range validStyles() {
		for dir := impl.DrRow; dir <= impl.DrColumnBack; dir++ {
			for items := impl.AlStretch; items <= impl.AlBase; items++ {
				for self := impl.AlAuto; self <= impl.AlBase; self++ {
					s.Dir, s.Items = dir, items
					kid := withField(fullStyle(), "Self", self)
					got := impl.AlignOf(s, kid)
					if got < impl.AlStretch || got > impl.AlBase || got == impl.AlBase && !impl.IsRow(s) {
						t.Errorf("AlignOf with the direction %d, Items %d and Self %d = %d", dir, items, self, got)
					}
				}
			}
		}
	}
}

func TestMirrored(t *testing.T) {
	for _, c := range []struct {
		inner, at, size, want int
	}{
		{100, 10, 20, 70},
		{100, 70, 20, 10},
		{100, 0, 20, 80},
		{100, 80, 20, 0},
		{100, 40, 20, 40},
		{100, 0, 100, 0},
		{100, 0, 0, 100},
		{100, 100, 0, 0},
		{0, 0, 0, 0},
		// A position before the beginning comes behind the end, and the other way round.
		{100, -10, 20, 90},
		{100, 90, 20, -10},
		{100, -20, 20, 100},
		{100, 100, 20, -20},
		{100, 130, 20, -50},
		{100, -50, 20, 130},
		// A size beyond the inner one begins before the beginning or ends behind the end.
		{100, 0, 150, -50},
		{100, -50, 150, 0},
		{100, -20, 150, -30},
		{0, 0, 20, -20},
		{0, 7, 0, -7},
		// No argument has a limit.
		{100, 10, -20, 110},
		{-100, 10, 20, -130},
		{-100, -10, -20, -70},
		{impl.MaxLen, -impl.MaxLen, 0, 2 * impl.MaxLen},
		{impl.MaxLen + 9, 0, 0, impl.MaxLen + 9},
		{0, impl.MaxLen, impl.MaxLen, -2 * impl.MaxLen},
		{0, impl.MaxLen + 9, 0, -impl.MaxLen - 9},
		{0, 0, impl.MaxLen + 9, -impl.MaxLen - 9},
		{math.MaxInt, 0, 0, math.MaxInt},
		{math.MaxInt, math.MaxInt, 0, 0},
		{math.MaxInt, 0, math.MaxInt, 0},
		{math.MinInt, 0, 0, math.MinInt},
		{math.MinInt, math.MinInt, 0, 0},
		{math.MinInt, 0, math.MinInt, 0},
		{0, math.MaxInt, 0, -math.MaxInt},
		{0, 0, math.MaxInt, -math.MaxInt},
		{-1, math.MinInt, 0, math.MaxInt},
		{-1, 0, math.MinInt, math.MaxInt},
		// On the way to a result within the ends of int, the difference may be beyond them.
		{math.MaxInt, -1, 1, math.MaxInt},
		{math.MinInt, 1, -1, math.MinInt},
		{math.MaxInt, math.MinInt + 1, math.MaxInt, math.MaxInt},
		// An int has 64 bits, so a result beyond its ends wraps around.
		{0, math.MinInt, 0, math.MinInt},
		{0, 0, math.MinInt, math.MinInt},
		{math.MaxInt, -1, 0, math.MinInt},
		{math.MaxInt, 0, -1, math.MinInt},
		{math.MinInt, 1, 0, math.MaxInt},
		{math.MinInt, 0, 1, math.MaxInt},
		{math.MaxInt, math.MinInt, math.MaxInt, math.MinInt},
		{math.MaxInt, math.MinInt, math.MinInt, math.MaxInt},
		{math.MinInt, math.MaxInt, math.MaxInt, math.MinInt + 2},
	} {
		if got := impl.Mirrored(c.inner, c.at, c.size, true); got != c.want {
			t.Errorf("Mirrored(%d, %d, %d, true) = %d, not %d", c.inner, c.at, c.size, got, c.want)
		}
		if got := impl.Mirrored(c.inner, c.at, c.size, false); got != c.at {
			t.Errorf("Mirrored(%d, %d, %d, false) = %d", c.inner, c.at, c.size, got)
		}
	}
}

func TestMirroringTwiceGivesTheOriginalPosition(t *testing.T) {
	numbers := edgeNumbers()
	for n := -4; n <= 4; n++ {
		numbers = append(numbers, 50+n)
	}
	for _, inner := range numbers {
		for _, at := range numbers {
			for _, size := range numbers {
				mirrored := impl.Mirrored(inner, at, size, true)
				want := new(big.Int).Sub(new(big.Int).Sub(bigOf(inner), bigOf(at)), bigOf(size))
				if mirrored != wrapped(want) {
					t.Errorf("Mirrored(%d, %d, %d, true) = %d, not %d", inner, at, size, mirrored, want)
				}
				if again := impl.Mirrored(inner, mirrored, size, true); again != at {
					t.Errorf("Mirrored(%d, %d, %d, true), mirrored again, is %d", inner, at, size, again)
				}
				if got := impl.Mirrored(inner, at, size, false); got != at {
					t.Errorf("Mirrored(%d, %d, %d, false) = %d", inner, at, size, got)
				}
			}
		}
	}
}

func TestMirroredKeepsBoxesInside(t *testing.T) {
	const inner = 9
	for at := 0; at <= inner; at++ {
		for size := 0; at+size <= inner; size++ {
			got := impl.Mirrored(inner, at, size, true)
			if got < 0 || got+size > inner {
				t.Errorf("Mirrored(%d, %d, %d, true) = %d", inner, at, size, got)
			}
			// The distance from one side becomes the distance from the other.
			if inner-got-size != at {
				t.Errorf("Mirrored(%d, %d, %d, true) = %d, which leaves %d behind", inner, at, size, got, inner-got-size)
			}
		}
	}
}

// TestMirroringFollowsTheSides mirrors a position exactly where the axis begins at the right or at the bottom.
func TestMirroringFollowsTheSides(t *testing.T) {
	for _, dir := range choiceNumbers() {
		for _, wrap := range choiceNumbers() {
			for _, rtl := range bothOrders() {
				s := axisStyle(impl.StyleNew(), dir, wrap)
				for _, a := range []axis{mainAxis(s, rtl), crossAxis(s, rtl)} {
					want := 10
					if a.begin == impl.SdRight || a.begin == impl.SdBottom {
						want = 70
					}
					got := impl.Mirrored(100, 10, 20, a.back)
					if got != want || impl.Mirrored(100, got, 20, a.back) != 10 {
						t.Errorf("with the direction %d and the wrapping %d in order %v, a position of 10 along %v is %d", dir, wrap, rtl, a, got)
					}
				}
			}
		}
	}
}

func TestAxesOfTheEndsOfInt(t *testing.T) {
	for _, n := range []int{math.MinInt, math.MaxInt} {
		for _, flag := range []bool{false, true} {
			s := evenStyle(n, flag)
			got := []any{impl.IsRow(s), mainAxis(s, false), mainAxis(s, true), crossAxis(s, false), crossAxis(s, true), impl.AlignOf(s, s), impl.AlignOf(s, impl.StyleNew())}
			want := []any{false, axis{false, 1, 3}, axis{false, 1, 3}, axis{false, 0, 2}, axis{true, 2, 0}, n, n}
			if !reflect.DeepEqual(got, want) {
				t.Errorf("a style of %d has %v, not %v", n, got, want)
			}
		}
	}
}
