package tests

import (
	"fmt"
	"math"
	"math/big"
	"math/rand"
	"reflect"
	"slices"
	"testing"

	"loop.example/g00972/impl"
)

// sideOf has no auto margins, and its baseline is at its beginning.
func sideOf(align, size, before, behind int) impl.Side {
	return impl.Side{Size: size, Before: before, Behind: behind, Align: align}
}

func baseSide(base, size, before, behind int) impl.Side {
	x := sideOf(impl.AlBase, size, before, behind)
	x.Base = base
	return x
}

func autoSide(x impl.Side, before, behind bool) impl.Side {
	x.AutoBefore, x.AutoBehind = before, behind
	return x
}

// autoSides are x with every choice of auto margins: none, before, behind, and both.
func autoSides(x impl.Side) []impl.Side {
	return []impl.Side{autoSide(x, false, false), autoSide(x, true, false), autoSide(x, false, true), autoSide(x, true, true)}
}

func alignedSide(x impl.Side, align int) impl.Side {
	x.Align = align
	return x
}

// fullSide is valid, and all of its numbers differ from zero and from each other.
func fullSide() impl.Side {
	return impl.Side{Size: 20, Before: 4, Behind: -3, Align: impl.AlBase, Base: 15}
}

// everyAlign states the values in numbers, so that it shares nothing with the constants of the program.
func everyAlign() []int { return []int{1, 2, 3, 4, 5} }

// otherAlign holds numbers that a Side cannot have as its alignment.
func otherAlign() []int {
	return slices.DeleteFunc(choiceNumbers(), func(n int) bool { return n >= 1 && n <= 5 })
}

// sideLimits states each range in numbers, so that it shares nothing with the constants of the program.
func sideLimits() []limit {
	return []limit{
		{"Size", 0, 1048576}, {"Before", -1048576, 1048576}, {"Behind", -1048576, 1048576},
		{"Align", 1, 5}, {"Base", 0, 1048576},
	}
}

// withSideNumber returns x with another number in the field of this name.
func withSideNumber(x impl.Side, name string, n int) impl.Side {
	reflect.ValueOf(&x).Elem().FieldByName(name).SetInt(int64(n))
	return x
}

// wrongSides have one field just outside of its limits or at an end of int, or several of them.
func wrongSides() []impl.Side {
	var list []impl.Side
	for _, l := range sideLimits() {
		for _, n := range []int{l.least - 1, l.most + 1, math.MinInt, math.MaxInt} {
			list = append(list, withSideNumber(fullSide(), l.name, n), withSideNumber(sideOf(impl.AlEnd, 0, 0, 0), l.name, n))
		}
	}
	return append(list, impl.Side{}, endSide(math.MinInt), endSide(math.MaxInt), alignedSide(endSide(math.MaxInt), impl.AlBase))
}

// endSide has the same number in every field.
func endSide(n int) impl.Side { return impl.Side{Size: n, Before: n, Behind: n, Align: n, Base: n} }

// The functions named want.. follow the sentences of the document and share nothing with the program.
func wantSideOk(x impl.Side) bool {
	for _, l := range sideLimits() {
		if n := int(reflect.ValueOf(x).FieldByName(l.name).Int()); n < l.least || n > l.most {
			return false
		}
	}
	return true
}

func wantOnBase(x impl.Side) bool { return x.Align == 5 && !x.AutoBefore && !x.AutoBehind }

func wantFills(x impl.Side) bool { return x.Align == 1 && !x.AutoBefore && !x.AutoBehind }

func bigTotal(numbers ...int) *big.Int {
	total := new(big.Int)
	for _, n := range numbers {
		total.Add(total, bigOf(n))
	}
	return total
}

// wantBaseOf compares sums that wrap around as an int of 64 bits does.
func wantBaseOf(list []impl.Side) int {
	var bases []int
	for _, x := range list {
		if wantOnBase(x) {
			bases = append(bases, wrapped(bigTotal(x.Before, x.Base)))
		}
	}
	if len(bases) == 0 {
		return 0
	}
	return slices.Max(bases)
}

// wantReach is the cross size of a valid line before it is clamped at the top.
func wantReach(list []impl.Side) int {
	sums, rests := []int{0}, []int{}
	for _, x := range list {
		if wantOnBase(x) {
			rests = append(rests, x.Size+x.Behind-x.Base)
		} else {
			sums = append(sums, x.Size+x.Before+x.Behind)
		}
	}
	if len(rests) > 0 {
		sums = append(sums, wantBaseOf(list)+slices.Max(rests))
	}
	return slices.Max(sums)
}

func wantSideList(list []impl.Side) bool {
	return len(list) <= 12 && !slices.ContainsFunc(list, func(x impl.Side) bool { return !wantSideOk(x) })
}

func wantCrossOf(list []impl.Side) int {
	if !wantSideList(list) {
		return 0
	}
	return min(wantReach(list), 1048576)
}

// wantFreeAcross wraps around as an int of 64 bits does.
func wantFreeAcross(x impl.Side, cross int) int {
	return wrapped(new(big.Int).Sub(bigOf(cross), bigTotal(x.Size, x.Before, x.Behind)))
}

func wantPlaceAcross(x impl.Side, cross, base int) int {
	if !wantSideOk(x) {
		return 0
	}
	if wantOnBase(x) {
		return wrapped(new(big.Int).Sub(bigOf(base), bigOf(x.Base)))
	}
	free, moved := wantFreeAcross(x, cross), 0
	switch {
	case x.AutoBefore && x.AutoBehind:
		moved = floorOf(max(free, 0), 1, 2)
	case x.AutoBefore:
		moved = max(free, 0)
	case x.AutoBehind:
	case x.Align == 3:
		moved = free
	case x.Align == 4:
		moved = floorOf(free, 1, 2)
	}
	return wrapped(bigTotal(x.Before, moved))
}

// checkSide compares what the program says of a single item with the document.
func checkSide(t *testing.T, x impl.Side, cross, base int) {
	t.Helper()
	if got, want := impl.SideOk(x), wantSideOk(x); got != want {
		t.Errorf("SideOk(%+v) = %t", x, got)
	}
	if got, want := impl.OnBase(x), wantOnBase(x); got != want {
		t.Errorf("OnBase(%+v) = %t", x, got)
	}
	if got, want := impl.Fills(x), wantFills(x); got != want {
		t.Errorf("Fills(%+v) = %t", x, got)
	}
	if got, want := impl.PlaceAcross(x, cross, base), wantPlaceAcross(x, cross, base); got != want {
		t.Errorf("PlaceAcross(%+v, %d, %d) = %d, not %d", x, cross, base, got, want)
	}
}

// checkSides compares what the program says of a line with the document and with promise 17.
func checkSides(t *testing.T, list []impl.Side) {
	t.Helper()
	if got, want := impl.BaseOf(list), wantBaseOf(list); got != want {
		t.Errorf("BaseOf(%+v) = %d, not %d", list, got, want)
	}
	if got, want := impl.CrossOf(list), wantCrossOf(list); got != want {
		t.Errorf("CrossOf(%+v) = %d, not %d", list, got, want)
	}
	backwards := slices.Clone(list)
	slices.Reverse(backwards)
	if impl.BaseOf(backwards) != impl.BaseOf(list) || impl.CrossOf(backwards) != impl.CrossOf(list) {
		t.Errorf("%+v are another line backwards", list)
	}
	checkSameBaseline(t, list)
	if wantSideList(list) && wantReach(list) <= 1048576 {
		checkWithin(t, list)
	}
}

// checkSameBaseline is promise 17. It holds whatever the cross size of the line is, also for a line with other items.
func checkSameBaseline(t *testing.T, list []impl.Side) {
	t.Helper()
	base, cross := impl.BaseOf(list), impl.CrossOf(list)
	for _, x := range list {
		if !impl.SideOk(x) || !impl.OnBase(x) {
			continue
		}
		for _, cross := range []int{cross, cross + 1, cross - 1, 0, -100, impl.MaxLen, impl.MaxLen + 1, math.MinInt, math.MaxInt} {
			if at := impl.PlaceAcross(x, cross, base); at+x.Base != base {
				t.Errorf("the baseline of %+v in %+v is at %d, not %d", x, list, at+x.Base, base)
			}
		}
	}
}

// checkWithin is about a line that is as long as its items ask for: it has room for each of them with its margins, and no more.
func checkWithin(t *testing.T, list []impl.Side) {
	t.Helper()
	base, cross := impl.BaseOf(list), impl.CrossOf(list)
	highest, longest := false, 0
	for _, x := range list {
		at := impl.PlaceAcross(x, cross, base)
		begin, end := at-x.Before, at+x.Size+x.Behind
		if begin < 0 || end > cross {
			t.Errorf("%+v is from %d to %d in a line of %d: %+v", x, begin, end, cross, list)
		}
		if impl.OnBase(x) {
			highest, longest = highest || begin == 0, max(longest, end)
		} else {
			longest = max(longest, x.Size+x.Before+x.Behind)
		}
	}
	if longest != cross {
		t.Errorf("a line of %d for items of %d: %+v", cross, longest, list)
	}
	// The baseline is no further from the beginning than an item needs it to be.
	if !highest && slices.ContainsFunc(list, impl.OnBase) {
		t.Errorf("no item on the baseline at %d begins at the beginning: %+v", base, list)
	}
}

// checkWrongLine asks for the fixed result of a line that is not valid.
func checkWrongLine(t *testing.T, list []impl.Side) {
	t.Helper()
	if cross := impl.CrossOf(list); cross != 0 || wantSideList(list) {
		t.Errorf("CrossOf(%+v) = %d", list, cross)
	}
	checkSides(t, list)
}

// An alignCase is what PlaceAcross has as its arguments, with a result that is written down and not computed.
type alignCase struct {
	side              impl.Side
	cross, base, want int
}

func checkAlignCases(t *testing.T, cases []alignCase) {
	t.Helper()
	for _, c := range cases {
		if got := impl.PlaceAcross(c.side, c.cross, c.base); got != c.want {
			t.Errorf("PlaceAcross(%+v, %d, %d) = %d, not %d", c.side, c.cross, c.base, got, c.want)
		}
		checkSide(t, c.side, c.cross, c.base)
	}
}

// A lineCase is what BaseOf or CrossOf has as its argument, with a result that is written down and not computed.
type lineCase struct {
	list []impl.Side
	want int
}

func checkLineCases(t *testing.T, name string, of func([]impl.Side) int, cases []lineCase) {
	t.Helper()
	for _, c := range cases {
		if got := of(c.list); got != c.want {
			t.Errorf("%s(%+v) = %d, not %d", name, c.list, got, c.want)
		}
		checkSides(t, c.list)
	}
}

// anySide is valid, and likely to be on the baseline.
func anySide(r *rand.Rand, most int) impl.Side {
	x := sideOf(pick(r, 1, 2, 3, 4, 5, 5, 5), pick(r, 0, 1, r.Intn(most+1), most), 0, 0)
	x.Base = pick(r, 0, x.Size, r.Intn(x.Size+1), r.Intn(most+1))
	if r.Intn(2) == 1 {
		x.Before, x.Behind = r.Intn(2*most+1)-most, r.Intn(2*most+1)-most
	}
	if r.Intn(2) == 1 {
		return autoSide(x, r.Intn(2) == 1, r.Intn(2) == 1)
	}
	return x
}

func anySides(r *rand.Rand, most int) []impl.Side {
	var list []impl.Side
	for range r.Intn(13) {
		list = append(list, anySide(r, most))
	}
	return list
}

// sideFeatures names what is to be seen in a valid line.
func sideFeatures(list []impl.Side) []string {
	features := []string{fmt.Sprintf("%d items", len(list))}
	based := 0
	for _, x := range list {
		if wantOnBase(x) {
			based++
		} else if x.Align == 5 {
			features = append(features, "AlBase with an auto margin")
		}
	}
	switch {
	case len(list) > 1 && based == len(list):
		features = append(features, "all on the baseline")
	case based > 1:
		features = append(features, "some on the baseline")
	case len(list) > 1 && based == 0:
		features = append(features, "none on the baseline")
	}
	if based > 0 {
		features = append(features, fmt.Sprintf("a baseline of sign %d", signOf(wantBaseOf(list))))
	}
	reach := wantReach(list)
	if len(list) > 0 && reach == 0 {
		features = append(features, "no cross size")
	}
	if reach > 1048576 {
		features = append(features, "a cross size beyond MaxLen")
	}
	return features
}

// placeKind says where an item belongs, so that a test can ask for each of them.
func placeKind(x impl.Side, cross int) string {
	return fmt.Sprintf("align %d, autos %t and %t, free of sign %d", x.Align, x.AutoBefore, x.AutoBehind, signOf(wantFreeAcross(x, cross)))
}
