package tests

import (
	"math"
	"math/big"
	"testing"

	"loop.example/g00972/impl"
)

// bothOrders holds left-to-right order and right-to-left order.
func bothOrders() []bool { return []bool{false, true} }

// fourSides holds each side that exists.
func fourSides() []int {
	return []int{impl.SdLeft, impl.SdTop, impl.SdRight, impl.SdBottom}
}

// otherSides holds numbers that are no side.
func otherSides() []int {
	return []int{
		-1, -2, 4, 5, 100, math.MinInt, math.MinInt + 1, math.MaxInt - 1, math.MaxInt,
		// These have the lowest bits of a side, which must not be enough.
		math.MinInt + impl.SdTop, math.MinInt + impl.SdRight, 1<<32 + impl.SdLeft, 1<<8 + impl.SdBottom,
	}
}

// withSide returns s with another value at one of its six places.
func withSide(s impl.Sides, place int, v impl.Value) impl.Sides {
	*[]*impl.Value{&s.Left, &s.Top, &s.Right, &s.Bottom, &s.Start, &s.End}[place] = v
	return s
}

// withEdge returns e with another length at one of its four places.
func withEdge(e impl.Edges, place int, n int) impl.Edges {
	*[]*int{&e.Left, &e.Top, &e.Right, &e.Bottom}[place] = n
	return e
}

// sidesOf returns sides with the same value at all six places.
func sidesOf(v impl.Value) impl.Sides {
	return impl.Sides{Left: v, Top: v, Right: v, Bottom: v, Start: v, End: v}
}

// edgesOf returns edges with the same length at all four places.
func edgesOf(n int) impl.Edges { return impl.Edges{Left: n, Top: n, Right: n, Bottom: n} }

// sixSides has a different value at each of its places.
func sixSides() impl.Sides {
	return impl.Sides{Left: point(1), Top: point(2), Right: point(3), Bottom: point(4), Start: point(5), End: point(6)}
}

// fourSidesOnly has no logical side.
func fourSidesOnly() impl.Sides {
	s := sixSides()
	s.Start, s.End = none(0), none(0)
	return s
}

// sideValues holds values of each kind, of which several are not valid.
func sideValues() []impl.Value {
	return []impl.Value{
		none(0), none(7), none(-1), none(math.MaxInt),
		point(0), point(7), point(-7), point(impl.MaxLen + 1),
		percent(50), percent(-50), percent(mostPercent + 1),
		auto(0), auto(7),
		{Kind: -1}, {Kind: 4, N: 7}, {Kind: math.MinInt, N: math.MinInt}, {Kind: math.MaxInt, N: math.MaxInt},
	}
}

// edgeSides holds the values at the horizontal places in every combination.
func edgeSides() []impl.Sides {
	var list []impl.Sides
	for _, left := range []impl.Value{none(0), none(3), point(1), auto(0)} {
		for _, right := range []impl.Value{none(0), none(4), percent(20), {Kind: 9, N: 9}} {
			for _, start := range sideValues() {
				for _, end := range sideValues() {
					list = append(list, impl.Sides{Left: left, Top: point(2), Right: right, Bottom: auto(0), Start: start, End: end})
				}
			}
		}
	}
	return list
}

// lengthNumbers holds the numbers around the limits of a length and the ends of int.
func lengthNumbers() []int {
	return []int{
		math.MinInt, math.MinInt + 1, -impl.MaxLen - 1, -impl.MaxLen, -7, -1, 0, 1, 7,
		impl.MaxLen / 2, impl.MaxLen/2 + 1, impl.MaxLen - 1, impl.MaxLen, impl.MaxLen + 1, math.MaxInt - 1, math.MaxInt,
	}
}

// wantSide follows the sentences of the document and shares nothing with the program.
func wantSide(s impl.Sides, side int, rtl bool) impl.Value {
	type place struct {
		side int
		rtl  bool
	}
	logical := map[place]impl.Value{{0, false}: s.Start, {0, true}: s.End, {2, false}: s.End, {2, true}: s.Start}
	if v, found := logical[place{side, rtl}]; found && v.Kind != 0 {
		return v
	}
	return map[int]impl.Value{0: s.Left, 1: s.Top, 2: s.Right, 3: s.Bottom}[side]
}

func wantMargin(v impl.Value, base int) *big.Int {
	if !wantKnown(v, base) {
		return bigOf(0)
	}
	return bigClamp(wantLength(v, base), -impl.MaxLen, impl.MaxLen)
}

func wantSum(a, b int) *big.Int {
	sum := new(big.Int).Add(bigClamp(bigOf(a), 0, impl.MaxLen), bigClamp(bigOf(b), 0, impl.MaxLen))
	return bigClamp(sum, 0, impl.MaxLen)
}

func TestSidesConstants(t *testing.T) {
	// The constants have no type, so they also fit in variables of another one.
	got := [4]int8{impl.SdLeft, impl.SdTop, impl.SdRight, impl.SdBottom}
	if got != [4]int8{0, 1, 2, 3} {
		t.Error("constants", got)
	}
}

func TestSidesOk(t *testing.T) {
	for _, s := range []impl.Sides{
		{},
		sixSides(),
		fourSidesOnly(),
		sidesOf(auto(0)),
		sidesOf(point(impl.MaxLen)),
		sidesOf(point(-impl.MaxLen)),
		sidesOf(percent(mostPercent)),
		sidesOf(percent(-mostPercent)),
		{Left: point(-5), Top: auto(0), Right: percent(50), Bottom: none(0), Start: percent(-50), End: auto(0)},
	} {
		if !impl.SidesOk(s) {
			t.Errorf("SidesOk(%d) = false", s)
		}
	}
	for _, s := range []impl.Sides{
		sidesOf(none(1)),
		sidesOf(auto(1)),
		sidesOf(point(math.MaxInt)),
		sidesOf(point(math.MinInt)),
		sidesOf(impl.Value{Kind: math.MinInt, N: math.MinInt}),
		sidesOf(impl.Value{Kind: math.MaxInt, N: math.MaxInt}),
	} {
		if impl.SidesOk(s) {
			t.Errorf("SidesOk(%d) = true", s)
		}
	}
}

func TestSidesOkChecksEachValue(t *testing.T) {
	for _, s := range []impl.Sides{{}, sixSides(), fourSidesOnly(), sidesOf(auto(0)), sidesOf(percent(50))} {
		for place := range 6 {
			for _, v := range edgeValues() {
				changed := withSide(s, place, v)
				if got := impl.SidesOk(changed); got != wantValid(v) {
					t.Errorf("SidesOk(%d) = %v", changed, got)
				}
			}
		}
	}
}

func TestEdgesOk(t *testing.T) {
	for _, c := range []struct {
		e    impl.Edges
		want bool
	}{
		{impl.Edges{}, true},
		{impl.Edges{Left: 1, Top: 2, Right: 3, Bottom: 4}, true},
		{edgesOf(impl.MaxLen), true},
		{edgesOf(impl.MaxLen + 1), false},
		{edgesOf(-1), false},
		{edgesOf(math.MinInt), false},
		{edgesOf(math.MaxInt), false},
		// Two fields that are not valid do not make up for each other.
		{impl.Edges{Left: -1, Right: 1}, false},
		{impl.Edges{Left: impl.MaxLen + 1, Right: -1}, false},
		{impl.Edges{Top: impl.MaxLen + 1, Bottom: -1}, false},
		{impl.Edges{Top: math.MinInt, Bottom: math.MaxInt}, false},
		{impl.Edges{Left: math.MinInt, Right: math.MinInt}, false},
	} {
		if got := impl.EdgesOk(c.e); got != c.want {
			t.Errorf("EdgesOk(%d) = %v", c.e, got)
		}
	}
}

func TestEdgesOkChecksEachField(t *testing.T) {
	for _, e := range []impl.Edges{{}, {Left: 1, Top: 2, Right: 3, Bottom: 4}, edgesOf(impl.MaxLen)} {
		for place := range 4 {
			for _, n := range append(lengthNumbers(), edgeNumbers()...) {
				changed := withEdge(e, place, n)
				if got := impl.EdgesOk(changed); got != (n >= 0 && n <= 1048576) {
					t.Errorf("EdgesOk(%d) = %v", changed, got)
				}
			}
		}
	}
}

func TestSideOf(t *testing.T) {
	startOnly, endOnly := sixSides(), sixSides()
	startOnly.End, endOnly.Start = none(0), none(0)
	logicalOnly := impl.Sides{Start: point(5), End: point(6)}
	for _, c := range []struct {
		s    impl.Sides
		side int
		rtl  bool
		want impl.Value
	}{
		{sixSides(), impl.SdLeft, false, point(5)},
		{sixSides(), impl.SdLeft, true, point(6)},
		{sixSides(), impl.SdRight, false, point(6)},
		{sixSides(), impl.SdRight, true, point(5)},
		{sixSides(), impl.SdTop, false, point(2)},
		{sixSides(), impl.SdTop, true, point(2)},
		{sixSides(), impl.SdBottom, false, point(4)},
		{sixSides(), impl.SdBottom, true, point(4)},
		{fourSidesOnly(), impl.SdLeft, false, point(1)},
		{fourSidesOnly(), impl.SdLeft, true, point(1)},
		{fourSidesOnly(), impl.SdRight, false, point(3)},
		{fourSidesOnly(), impl.SdRight, true, point(3)},
		{fourSidesOnly(), impl.SdTop, true, point(2)},
		{fourSidesOnly(), impl.SdBottom, true, point(4)},
		{startOnly, impl.SdLeft, false, point(5)},
		{startOnly, impl.SdLeft, true, point(1)},
		{startOnly, impl.SdRight, false, point(3)},
		{startOnly, impl.SdRight, true, point(5)},
		{endOnly, impl.SdLeft, false, point(1)},
		{endOnly, impl.SdLeft, true, point(6)},
		{endOnly, impl.SdRight, false, point(6)},
		{endOnly, impl.SdRight, true, point(3)},
		{logicalOnly, impl.SdLeft, false, point(5)},
		{logicalOnly, impl.SdLeft, true, point(6)},
		{logicalOnly, impl.SdRight, false, point(6)},
		{logicalOnly, impl.SdRight, true, point(5)},
		// The logical sides are never the top or the bottom.
		{logicalOnly, impl.SdTop, false, none(0)},
		{logicalOnly, impl.SdTop, true, none(0)},
		{logicalOnly, impl.SdBottom, false, none(0)},
		{logicalOnly, impl.SdBottom, true, none(0)},
		{impl.Sides{}, impl.SdLeft, false, none(0)},
		{impl.Sides{}, impl.SdRight, true, none(0)},
	} {
		if got := impl.SideOf(c.s, c.side, c.rtl); got != c.want {
			t.Errorf("SideOf(%d, %d, %v) = %d, not %d", c.s, c.side, c.rtl, got, c.want)
		}
	}
}

func TestSideOfTakesEachLogicalValueThatIsNotNone(t *testing.T) {
	for _, v := range sideValues() {
		start, end := fourSidesOnly(), fourSidesOnly()
		start.Start, end.End = v, v
		left, right := v, v
		// The kind decides, even if N is not 0.
		if v.Kind == impl.VaNone {
			left, right = point(1), point(3)
		}
		for _, c := range []struct {
			s    impl.Sides
			side int
			rtl  bool
			want impl.Value
		}{
			{start, impl.SdLeft, false, left},
			{start, impl.SdRight, true, right},
			{start, impl.SdLeft, true, point(1)},
			{start, impl.SdRight, false, point(3)},
			{end, impl.SdLeft, true, left},
			{end, impl.SdRight, false, right},
			{end, impl.SdLeft, false, point(1)},
			{end, impl.SdRight, true, point(3)},
		} {
			if got := impl.SideOf(c.s, c.side, c.rtl); got != c.want {
				t.Errorf("SideOf(%d, %d, %v) = %d, not %d", c.s, c.side, c.rtl, got, c.want)
			}
		}
	}
}

func TestSideOfLeavesPhysicalValuesAsTheyAre(t *testing.T) {
	for _, v := range append(edgeValues(), sideValues()...) {
		for place, side := range fourSides() {
			s := withSide(fourSidesOnly(), place, v)
			// A logical value that is none does not replace the N of a physical one.
			s.Start, s.End = none(8), none(9)
			for _, rtl := range bothOrders() {
				if got := impl.SideOf(s, side, rtl); got != v {
					t.Errorf("SideOf(%d, %d, %v) = %d", s, side, rtl, got)
				}
			}
		}
	}
}

func TestSideOfIsZeroForOtherSides(t *testing.T) {
	for _, s := range []impl.Sides{sixSides(), fourSidesOnly(), sidesOf(auto(0)), sidesOf(impl.Value{Kind: 4, N: 7})} {
		for _, side := range otherSides() {
			for _, rtl := range bothOrders() {
				if got := impl.SideOf(s, side, rtl); got != (impl.Value{}) {
					t.Errorf("SideOf(%d, %d, %v) = %d", s, side, rtl, got)
				}
				if got := impl.MarginOf(s, side, rtl, 100); got != 0 {
					t.Errorf("MarginOf(%d, %d, %v, 100) = %d", s, side, rtl, got)
				}
				if impl.AutoSide(s, side, rtl) {
					t.Errorf("AutoSide(%d, %d, %v) = true", s, side, rtl)
				}
			}
		}
	}
}

func TestLogicalSidesAreExchanged(t *testing.T) {
	for _, s := range edgeSides() {
		// The order and an exchange of the logical sides cancel each other out.
		exchanged := s
		exchanged.Start, exchanged.End = s.End, s.Start
		// In the other order, everything is at the opposite side.
		mirrored := s
		mirrored.Left, mirrored.Right = s.Right, s.Left
		opposite := map[int]int{impl.SdLeft: impl.SdRight, impl.SdRight: impl.SdLeft, impl.SdTop: impl.SdTop, impl.SdBottom: impl.SdBottom}
		for _, side := range fourSides() {
			for _, rtl := range bothOrders() {
				got := impl.SideOf(s, side, rtl)
				if want := wantSide(s, side, rtl); got != want {
					t.Errorf("SideOf(%d, %d, %v) = %d, not %d", s, side, rtl, got, want)
				}
				if other := impl.SideOf(exchanged, side, !rtl); other != got {
					t.Errorf("SideOf(%d, %d, %v) = %d, and %d with its logical sides exchanged", s, side, rtl, got, other)
				}
				if other := impl.SideOf(mirrored, opposite[side], !rtl); other != got {
					t.Errorf("SideOf(%d, %d, %v) = %d, and %d at the opposite side", s, side, rtl, got, other)
				}
				if auto := impl.AutoSide(s, side, rtl); auto != (got.Kind == 3) {
					t.Errorf("AutoSide(%d, %d, %v) = %v", s, side, rtl, auto)
				}
				for _, base := range []int{impl.Unknown, 0, 11, math.MaxInt} {
					if margin := impl.MarginOf(s, side, rtl, base); bigOf(margin).Cmp(wantMargin(got, base)) != 0 {
						t.Errorf("MarginOf(%d, %d, %v, %d) = %d", s, side, rtl, base, margin)
					}
				}
			}
		}
	}
}

func TestMarginOf(t *testing.T) {
	for _, c := range []struct {
		v          impl.Value
		base, want int
	}{
		{point(5), 10, 5},
		{point(5), impl.Unknown, 5},
		{point(0), 10, 0},
		{point(-5), 10, -5},
		{point(-5), math.MinInt, -5},
		// A length may be the number of Unknown.
		{point(impl.Unknown), 10, -1},
		{point(impl.Unknown), impl.Unknown, -1},
		{percent(-1), 1, -1},
		{percent(50), 11, 5},
		{percent(-50), 11, -6},
		{percent(50), 0, 0},
		{percent(50), math.MaxInt, 524288},
		// A percentage of an unknown size is not known.
		{percent(50), impl.Unknown, 0},
		{percent(-50), impl.Unknown, 0},
		{percent(50), -2, 0},
		{percent(50), math.MinInt, 0},
		// The other kinds are never known.
		{none(0), 10, 0},
		{none(5), 10, 0},
		{auto(0), 10, 0},
		{auto(5), 10, 0},
		{impl.Value{Kind: -1, N: 5}, 10, 0},
		{impl.Value{Kind: 4, N: 5}, 10, 0},
		{impl.Value{Kind: math.MinInt, N: math.MinInt}, 10, 0},
		{impl.Value{Kind: math.MaxInt, N: math.MaxInt}, 10, 0},
		// Lengths beyond the limits on both sides.
		{point(impl.MaxLen - 1), 10, impl.MaxLen - 1},
		{point(impl.MaxLen), 10, impl.MaxLen},
		{point(impl.MaxLen + 1), 10, impl.MaxLen},
		{point(math.MaxInt), 10, impl.MaxLen},
		{point(1 - impl.MaxLen), 10, 1 - impl.MaxLen},
		{point(-impl.MaxLen), 10, -impl.MaxLen},
		{point(-impl.MaxLen - 1), 10, -impl.MaxLen},
		{point(math.MinInt), 10, -impl.MaxLen},
		{percent(100), impl.MaxLen, impl.MaxLen},
		{percent(101), impl.MaxLen, impl.MaxLen},
		{percent(-100), impl.MaxLen, -impl.MaxLen},
		{percent(-101), impl.MaxLen, -impl.MaxLen},
		{percent(mostPercent), impl.MaxLen, impl.MaxLen},
		{percent(-mostPercent), impl.MaxLen, -impl.MaxLen},
		{percent(math.MaxInt), math.MaxInt, impl.MaxLen},
		{percent(math.MinInt), math.MaxInt, -impl.MaxLen},
	} {
		for place, side := range fourSides() {
			for _, rtl := range bothOrders() {
				if got := impl.MarginOf(withSide(fourSidesOnly(), place, c.v), side, rtl, c.base); got != c.want {
					t.Errorf("MarginOf of %d at side %d in order %v with base %d = %d, not %d", c.v, side, rtl, c.base, got, c.want)
				}
			}
		}
	}
}

func TestMarginOfLogicalSides(t *testing.T) {
	s := impl.Sides{Left: point(1), Top: percent(10), Right: point(3), Bottom: point(-4), Start: percent(-50), End: auto(0)}
	for _, c := range []struct {
		side int
		rtl  bool
		base int
		want int
	}{
		{impl.SdLeft, false, 11, -6},
		{impl.SdRight, true, 11, -6},
		// A logical value that is not known still hides the physical one.
		{impl.SdLeft, false, impl.Unknown, 0},
		{impl.SdRight, true, impl.Unknown, 0},
		{impl.SdLeft, true, 11, 0},
		{impl.SdRight, false, 11, 0},
		{impl.SdTop, false, 11, 1},
		{impl.SdTop, true, 11, 1},
		{impl.SdTop, true, impl.Unknown, 0},
		{impl.SdBottom, false, 11, -4},
		{impl.SdBottom, true, impl.Unknown, -4},
	} {
		if got := impl.MarginOf(s, c.side, c.rtl, c.base); got != c.want {
			t.Errorf("MarginOf(%d, %d, %v, %d) = %d, not %d", s, c.side, c.rtl, c.base, got, c.want)
		}
	}
}

func TestMarginOfIsTheLengthOfTheSide(t *testing.T) {
	for _, v := range edgeValues() {
		s := fourSidesOnly()
		s.Top = v
		for _, base := range valueNumbers() {
			got := impl.MarginOf(s, impl.SdTop, false, base)
			if want := wantMargin(v, base); bigOf(got).Cmp(want) != 0 {
				t.Errorf("MarginOf of %d with base %d = %d, not %s", v, base, got, want)
			}
		}
	}
}

func TestAutoSide(t *testing.T) {
	for _, c := range []struct {
		s    impl.Sides
		side int
		rtl  bool
		want bool
	}{
		{impl.Sides{Start: auto(0)}, impl.SdLeft, false, true},
		{impl.Sides{Start: auto(0)}, impl.SdRight, false, false},
		{impl.Sides{Start: auto(0)}, impl.SdLeft, true, false},
		{impl.Sides{Start: auto(0)}, impl.SdRight, true, true},
		{impl.Sides{End: auto(0)}, impl.SdLeft, false, false},
		{impl.Sides{End: auto(0)}, impl.SdRight, false, true},
		{impl.Sides{End: auto(0)}, impl.SdLeft, true, true},
		{impl.Sides{End: auto(0)}, impl.SdRight, true, false},
		{impl.Sides{Left: auto(0)}, impl.SdLeft, false, true},
		{impl.Sides{Left: auto(0)}, impl.SdLeft, true, true},
		{impl.Sides{Left: auto(0)}, impl.SdRight, false, false},
		{impl.Sides{Left: auto(0)}, impl.SdRight, true, false},
		{impl.Sides{Right: auto(0)}, impl.SdLeft, false, false},
		{impl.Sides{Right: auto(0)}, impl.SdLeft, true, false},
		{impl.Sides{Right: auto(0)}, impl.SdRight, false, true},
		{impl.Sides{Right: auto(0)}, impl.SdRight, true, true},
		{impl.Sides{Top: auto(0)}, impl.SdTop, false, true},
		{impl.Sides{Top: auto(0)}, impl.SdTop, true, true},
		{impl.Sides{Top: auto(0)}, impl.SdBottom, false, false},
		{impl.Sides{Bottom: auto(0)}, impl.SdBottom, false, true},
		{impl.Sides{Bottom: auto(0)}, impl.SdBottom, true, true},
		{impl.Sides{Bottom: auto(0)}, impl.SdTop, true, false},
		// A logical value that is not auto hides a physical one that is.
		{impl.Sides{Left: auto(0), Start: point(0)}, impl.SdLeft, false, false},
		{impl.Sides{Left: auto(0), Start: point(0)}, impl.SdLeft, true, true},
		{impl.Sides{Right: auto(0), End: percent(0)}, impl.SdRight, false, false},
		{impl.Sides{Right: auto(0), End: percent(0)}, impl.SdRight, true, true},
		{impl.Sides{Left: auto(0), Start: impl.Value{Kind: 4}}, impl.SdLeft, false, false},
		{impl.Sides{Left: auto(0), Start: none(7)}, impl.SdLeft, false, true},
		{impl.Sides{Left: point(1), Start: auto(0)}, impl.SdLeft, false, true},
		{impl.Sides{Left: point(1), Start: auto(0)}, impl.SdLeft, true, false},
		{impl.Sides{}, impl.SdLeft, false, false},
		{impl.Sides{}, impl.SdBottom, true, false},
	} {
		if got := impl.AutoSide(c.s, c.side, c.rtl); got != c.want {
			t.Errorf("AutoSide(%d, %d, %v) = %v", c.s, c.side, c.rtl, got)
		}
	}
}

func TestAutoSideAsksForTheKind(t *testing.T) {
	for _, v := range edgeValues() {
		for place, side := range fourSides() {
			for _, rtl := range bothOrders() {
				// The kind decides, even if N is not 0.
				if got := impl.AutoSide(withSide(fourSidesOnly(), place, v), side, rtl); got != (v.Kind == 3) {
					t.Errorf("AutoSide of %d at side %d in order %v = %v", v, side, rtl, got)
				}
			}
		}
	}
}

func TestEdgesIn(t *testing.T) {
	for _, c := range []struct {
		a, b, want impl.Edges
	}{
		{impl.Edges{}, impl.Edges{}, impl.Edges{}},
		{impl.Edges{Left: 1, Top: 2}, impl.Edges{Left: 3, Bottom: 4}, impl.Edges{Left: 4, Top: 2, Bottom: 4}},
		{impl.Edges{Left: 1, Top: 2, Right: 3, Bottom: 4}, impl.Edges{Left: 10, Top: 20, Right: 30, Bottom: 40}, impl.Edges{Left: 11, Top: 22, Right: 33, Bottom: 44}},
		// A negative field takes nothing from the other one.
		{edgesOf(-5), edgesOf(10), edgesOf(10)},
		{edgesOf(10), edgesOf(-5), edgesOf(10)},
		{edgesOf(-5), edgesOf(-5), edgesOf(0)},
		{edgesOf(math.MinInt), edgesOf(7), edgesOf(7)},
		{edgesOf(math.MinInt), edgesOf(math.MinInt), edgesOf(0)},
		{edgesOf(math.MinInt), edgesOf(math.MaxInt), edgesOf(impl.MaxLen)},
		{edgesOf(math.MaxInt), edgesOf(math.MaxInt), edgesOf(impl.MaxLen)},
		{edgesOf(impl.MaxLen + 5), edgesOf(-5), edgesOf(impl.MaxLen)},
		{edgesOf(impl.MaxLen - 1), edgesOf(1), edgesOf(impl.MaxLen)},
		{edgesOf(impl.MaxLen), edgesOf(1), edgesOf(impl.MaxLen)},
		{edgesOf(impl.MaxLen), edgesOf(impl.MaxLen), edgesOf(impl.MaxLen)},
	} {
		if got := impl.EdgesIn(c.a, c.b); got != c.want {
			t.Errorf("EdgesIn(%d, %d) = %d, not %d", c.a, c.b, got, c.want)
		}
	}
}

func TestEdgesInAddsEachField(t *testing.T) {
	base, other := impl.Edges{Left: 1, Top: 2, Right: 3, Bottom: 4}, impl.Edges{Left: 10, Top: 20, Right: 30, Bottom: 40}
	for place := range 4 {
		for _, n := range lengthNumbers() {
			for _, m := range lengthNumbers() {
				want := withEdge(impl.Edges{Left: 11, Top: 22, Right: 33, Bottom: 44}, place, int(wantSum(n, m).Int64()))
				a, b := withEdge(base, place, n), withEdge(other, place, m)
				got := impl.EdgesIn(a, b)
				if got != want {
					t.Errorf("EdgesIn(%d, %d) = %d, not %d", a, b, got, want)
				}
				if !impl.EdgesOk(got) {
					t.Errorf("EdgesIn(%d, %d) = %d, which is not valid", a, b, got)
				}
			}
		}
	}
}

func TestWideOfAndHighOf(t *testing.T) {
	for _, c := range []struct {
		e          impl.Edges
		wide, high int
	}{
		{impl.Edges{}, 0, 0},
		{impl.Edges{Left: 1, Top: 2, Right: 4, Bottom: 8}, 5, 10},
		{impl.Edges{Left: 7}, 7, 0},
		{impl.Edges{Right: 7}, 7, 0},
		{impl.Edges{Top: 7}, 0, 7},
		{impl.Edges{Bottom: 7}, 0, 7},
		// A negative field takes nothing from the other one.
		{impl.Edges{Left: -5, Top: 10, Right: 10, Bottom: -5}, 10, 10},
		{impl.Edges{Left: 10, Top: -5, Right: -5, Bottom: 10}, 10, 10},
		{edgesOf(-5), 0, 0},
		{edgesOf(impl.MaxLen), impl.MaxLen, impl.MaxLen},
		{edgesOf(impl.MaxLen / 2), impl.MaxLen, impl.MaxLen},
		{edgesOf(impl.MaxLen/2 + 1), impl.MaxLen, impl.MaxLen},
		{edgesOf(math.MaxInt), impl.MaxLen, impl.MaxLen},
		{edgesOf(math.MinInt), 0, 0},
		{impl.Edges{Left: math.MaxInt, Top: math.MinInt, Right: math.MinInt, Bottom: math.MaxInt}, impl.MaxLen, impl.MaxLen},
		{impl.Edges{Left: impl.MaxLen + 5, Right: -5}, impl.MaxLen, 0},
		{impl.Edges{Top: -5, Bottom: impl.MaxLen + 5}, 0, impl.MaxLen},
	} {
		if wide, high := impl.WideOf(c.e), impl.HighOf(c.e); wide != c.wide || high != c.high {
			t.Errorf("%d is %d wide and %d high, not %d and %d", c.e, wide, high, c.wide, c.high)
		}
	}
	for _, n := range lengthNumbers() {
		for _, m := range lengthNumbers() {
			want := wantSum(n, m)
			// The fields of the other dimension must not count.
			wide := impl.WideOf(impl.Edges{Left: n, Top: 50, Right: m, Bottom: 60})
			high := impl.HighOf(impl.Edges{Left: 50, Top: n, Right: 60, Bottom: m})
			if bigOf(wide).Cmp(want) != 0 || bigOf(high).Cmp(want) != 0 {
				t.Errorf("the edges %d and %d are %d wide and %d high, not %s", n, m, wide, high, want)
			}
		}
	}
}
