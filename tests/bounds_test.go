package tests

import (
	"math"
	"math/big"
	"strings"
	"testing"

	"loop.example/g00972/impl"
)

// mostRatio is the largest Ratio of a valid style.
const mostRatio = 6400

// A span is what a style says of one of its dimensions.
type span struct {
	fixed, least, most impl.Value
	pad, border        [2]int
}

// withSpan returns s with another width, or with another height.
func withSpan(s impl.Style, wide bool, d span) impl.Style {
	if wide {
		s.Width, s.MinWidth, s.MaxWidth = d.fixed, d.least, d.most
		s.Pad.Left, s.Pad.Right = d.pad[0], d.pad[1]
		s.Border.Left, s.Border.Right = d.border[0], d.border[1]
	} else {
		s.Height, s.MinHeight, s.MaxHeight = d.fixed, d.least, d.most
		s.Pad.Top, s.Pad.Bottom = d.pad[0], d.pad[1]
		s.Border.Top, s.Border.Bottom = d.border[0], d.border[1]
	}
	return s
}

func withRatio(s impl.Style, ratio int) impl.Style {
	s.Ratio = ratio
	return s
}

// spanPaths holds the fields that withSpan sets, as eachLeaf names them.
func spanPaths(wide bool) []string {
	if wide {
		return []string{".Width.", ".MinWidth.", ".MaxWidth.", ".Pad.Left", ".Pad.Right", ".Border.Left", ".Border.Right"}
	}
	return []string{".Height.", ".MinHeight.", ".MaxHeight.", ".Pad.Top", ".Pad.Bottom", ".Border.Top", ".Border.Bottom"}
}

func bothDimensions() []bool { return []bool{true, false} }

// framed has a frame of n.
func framed(n int) span { return span{pad: [2]int{n, 0}} }

// boundBases holds bases that are unknown, and those around the limits of a length and the ends of int.
func boundBases() []int {
	return append(lengthNumbers(), impl.Unknown-1, 10, 100)
}

// boundValues holds values of each kind, of which several are not valid.
func boundValues() []impl.Value {
	list := sideValues()
	for _, n := range []int{math.MinInt, -1, 1, 50, impl.MaxLen, math.MaxInt} {
		list = append(list, none(n), point(n), percent(n), auto(n))
	}
	return list
}

// frameNumbers holds paddings and borders that add up to nothing, to something and to more than the limit.
func frameNumbers() [][4]int {
	return [][4]int{
		{0, 0, 0, 0}, {7, 0, 0, 0}, {1, 2, 3, 4}, {-5, 50, -5, 0},
		{impl.MaxLen, 0, 0, 0}, {impl.MaxLen / 2, impl.MaxLen / 2, 1, 1},
		{math.MaxInt, math.MaxInt, math.MaxInt, math.MaxInt},
		{math.MinInt, math.MaxInt, math.MinInt, 0},
		{math.MinInt, math.MinInt, math.MinInt, math.MinInt},
	}
}

// The functions named want.. follow the sentences of the document and share nothing with the program.
func wantFrame(d span) int {
	before := int(wantSum(d.pad[0], d.border[0]).Int64())
	behind := int(wantSum(d.pad[1], d.border[1]).Int64())
	return int(wantSum(before, behind).Int64())
}

func wantSize(v impl.Value, base int) int {
	if !wantKnown(v, base) {
		return -1
	}
	return int(bigClamp(wantLength(v, base), 0, 1048576).Int64())
}

func wantLeast(d span, base int) int {
	size := wantSize(d.least, base)
	if size == -1 {
		size = 0
	}
	return max(wantFrame(d), size)
}

func wantBounded(d span, base, n int) int {
	if most := wantSize(d.most, base); most != -1 && n > most {
		n = most
	}
	return min(max(n, wantLeast(d, base)), 1048576)
}

func wantRatio(ratio int, wide bool, other int) int {
	if ratio < 1 || other < 0 {
		return -1
	}
	size, factor := bigClamp(bigOf(other), 0, 1048576), bigClamp(bigOf(ratio), 0, 1048576)
	if wide {
		size = bigFloor(new(big.Int).Mul(size, factor), bigOf(64))
	} else {
		size = bigFloor(new(big.Int).Mul(size, bigOf(64)), factor)
	}
	return int(bigClamp(size, 0, 1048576).Int64())
}

func wantGiven(s impl.Style, d span, wide bool, base, other int) int {
	if size := wantSize(d.fixed, base); size != -1 {
		return size
	}
	return wantRatio(s.Ratio, wide, other)
}

// A sizeCase is a value of a style that is resolved with a base.
type sizeCase struct {
	v          impl.Value
	base, want int
}

// sizeCases holds each kind of value and what SizeOf makes of it.
func sizeCases() []sizeCase {
	return []sizeCase{
		{point(50), 100, 50},
		{point(50), impl.Unknown, 50},
		{point(50), 0, 50},
		{point(0), 100, 0},
		{point(impl.MaxLen), 100, impl.MaxLen},
		{percent(50), 100, 50},
		{percent(50), 101, 50},
		{percent(150), 11, 16},
		{percent(0), 100, 0},
		{percent(50), 0, 0},
		{percent(100), impl.MaxLen, impl.MaxLen},
		{percent(101), impl.MaxLen, impl.MaxLen},
		{percent(50), impl.MaxLen, 524288},
		{percent(50), impl.MaxLen + 1, 524288},
		{percent(50), math.MaxInt, 524288},
		// A percentage of an unknown base is unknown, and so is what is no length.
		{percent(50), impl.Unknown, impl.Unknown},
		{percent(0), impl.Unknown, impl.Unknown},
		{percent(50), -2, impl.Unknown},
		{percent(50), math.MinInt, impl.Unknown},
		{none(0), 100, impl.Unknown},
		{none(0), impl.Unknown, impl.Unknown},
		{none(5), 100, impl.Unknown},
		{auto(0), 100, impl.Unknown},
		{auto(0), impl.Unknown, impl.Unknown},
		{auto(5), 100, impl.Unknown},
		// A value that is not valid is resolved all the same.
		{point(-5), 100, 0},
		{point(impl.Unknown), 100, 0},
		{point(impl.MaxLen + 1), 100, impl.MaxLen},
		{point(math.MinInt), 100, 0},
		{point(math.MaxInt), math.MinInt, impl.MaxLen},
		{percent(-50), 100, 0},
		{percent(math.MinInt), math.MaxInt, 0},
		{percent(math.MaxInt), math.MaxInt, impl.MaxLen},
		{percent(math.MaxInt), math.MinInt, impl.Unknown},
		{impl.Value{Kind: -1, N: 5}, 100, impl.Unknown},
		{impl.Value{Kind: 4, N: 5}, 100, impl.Unknown},
		{impl.Value{Kind: math.MinInt, N: math.MinInt}, math.MinInt, impl.Unknown},
		{impl.Value{Kind: math.MaxInt, N: math.MaxInt}, math.MaxInt, impl.Unknown},
	}
}

func TestFrameSize(t *testing.T) {
	for _, c := range []struct {
		pad, border [2]int
		want        int
	}{
		{[2]int{0, 0}, [2]int{0, 0}, 0},
		{[2]int{7, 0}, [2]int{0, 0}, 7},
		{[2]int{0, 7}, [2]int{0, 0}, 7},
		{[2]int{0, 0}, [2]int{7, 0}, 7},
		{[2]int{0, 0}, [2]int{0, 7}, 7},
		{[2]int{1, 20}, [2]int{300, 4000}, 4321},
		// A negative edge takes nothing from the others.
		{[2]int{-5, 10}, [2]int{-5, -5}, 10},
		{[2]int{-5, -5}, [2]int{-5, -5}, 0},
		{[2]int{impl.MaxLen - 1, 1}, [2]int{0, 0}, impl.MaxLen},
		{[2]int{impl.MaxLen, 1}, [2]int{0, 0}, impl.MaxLen},
		{[2]int{impl.MaxLen, 0}, [2]int{1, -1}, impl.MaxLen},
		{[2]int{impl.MaxLen + 1, -1}, [2]int{0, 0}, impl.MaxLen},
		{[2]int{impl.MaxLen, impl.MaxLen}, [2]int{impl.MaxLen, impl.MaxLen}, impl.MaxLen},
		{[2]int{math.MaxInt, math.MaxInt}, [2]int{math.MaxInt, math.MaxInt}, impl.MaxLen},
		{[2]int{math.MinInt, 5}, [2]int{math.MinInt, 6}, 11},
		{[2]int{math.MinInt, math.MinInt}, [2]int{math.MinInt, math.MinInt}, 0},
	} {
		for _, base := range anyStyles() {
			for _, wide := range bothDimensions() {
				s := withSpan(base, wide, span{pad: c.pad, border: c.border})
				if got := impl.FrameSize(s, wide); got != c.want {
					t.Errorf("FrameSize with %d and %d = %d, not %d", s.Pad, s.Border, got, c.want)
				}
			}
		}
	}
}

func TestFrameSizeOfEachSide(t *testing.T) {
	s := impl.StyleNew()
	s.Pad = impl.Edges{Left: 1, Top: 2, Right: 4, Bottom: 8}
	s.Border = impl.Edges{Left: 16, Top: 32, Right: 64, Bottom: 128}
	if wide, high := impl.FrameSize(s, true), impl.FrameSize(s, false); wide != 85 || high != 170 {
		t.Errorf("FrameSize = %d and %d", wide, high)
	}
}

func TestLeastOfEachKindOfValue(t *testing.T) {
	for _, c := range sizeCases() {
		for _, base := range anyStyles() {
			for _, wide := range bothDimensions() {
				// The maximum and the fixed size are no minimum.
				d := span{fixed: point(900), least: c.v, most: point(1)}
				if got := impl.LeastOf(withSpan(base, wide, d), wide, c.base); got != max(c.want, 0) {
					t.Errorf("LeastOf(%v) with the minimum %d of %d = %d", wide, c.v, c.base, got)
				}
				d.pad, d.border = [2]int{20, 3}, [2]int{10, 7}
				if got := impl.LeastOf(withSpan(base, wide, d), wide, c.base); got != max(c.want, 40) {
					t.Errorf("LeastOf(%v) with the minimum %d of %d and a frame of 40 = %d", wide, c.v, c.base, got)
				}
			}
		}
	}
}

func TestLeastOfAndTheFrame(t *testing.T) {
	for _, c := range []struct {
		frame int
		least impl.Value
		base  int
		want  int
	}{
		{0, none(0), 100, 0},
		{7, none(0), 100, 7},
		{7, auto(0), 100, 7},
		// Less than the frame, equal to it and greater.
		{7, point(0), 100, 7},
		{7, point(6), 100, 7},
		{7, point(7), 100, 7},
		{7, point(8), 100, 8},
		{7, percent(6), 100, 7},
		{7, percent(7), 100, 7},
		{7, percent(8), 100, 8},
		{7, percent(50), impl.Unknown, 7},
		{7, percent(50), 0, 7},
		{0, percent(50), impl.Unknown, 0},
		{impl.MaxLen, point(impl.MaxLen - 1), 100, impl.MaxLen},
		{impl.MaxLen, point(impl.MaxLen), 100, impl.MaxLen},
		{impl.MaxLen - 1, point(impl.MaxLen), 100, impl.MaxLen},
		{impl.MaxLen + 1, point(5), 100, impl.MaxLen},
		{5, point(impl.MaxLen + 1), 100, impl.MaxLen},
		{math.MaxInt, point(math.MinInt), math.MinInt, impl.MaxLen},
		{math.MinInt, point(math.MaxInt), math.MaxInt, impl.MaxLen},
		{math.MinInt, point(math.MinInt), math.MinInt, 0},
	} {
		for _, wide := range bothDimensions() {
			d := framed(c.frame)
			d.least = c.least
			if got := impl.LeastOf(withSpan(fullStyle(), wide, d), wide, c.base); got != c.want {
				t.Errorf("LeastOf(%v) with a frame of %d and the minimum %d of %d = %d, not %d", wide, c.frame, c.least, c.base, got, c.want)
			}
		}
	}
}

func TestMostOf(t *testing.T) {
	for _, c := range sizeCases() {
		for _, base := range anyStyles() {
			for _, wide := range bothDimensions() {
				// Neither the frame nor the minimum makes the maximum greater.
				for _, d := range []span{{most: c.v}, {fixed: point(900), least: point(800), most: c.v, pad: [2]int{70, 6}}} {
					if got := impl.MostOf(withSpan(base, wide, d), wide, c.base); got != c.want {
						t.Errorf("MostOf(%v) with the maximum %d of %d = %d, not %d", wide, c.v, c.base, got, c.want)
					}
				}
			}
		}
	}
}

func TestFixedOf(t *testing.T) {
	for _, c := range sizeCases() {
		for _, base := range anyStyles() {
			for _, wide := range bothDimensions() {
				// Neither the frame nor a bound nor the ratio changes the fixed size.
				for _, d := range []span{{fixed: c.v}, {fixed: c.v, least: point(800), most: point(1), pad: [2]int{70, 6}}} {
					for _, ratio := range []int{0, 64, base.Ratio} {
						s := withRatio(withSpan(base, wide, d), ratio)
						if got := impl.FixedOf(s, wide, c.base); got != c.want {
							t.Errorf("FixedOf(%v) with the size %d of %d = %d, not %d", wide, c.v, c.base, got, c.want)
						}
					}
				}
			}
		}
	}
}

func TestBounded(t *testing.T) {
	for _, c := range []struct {
		frame       int
		least, most impl.Value
		base        int
		n, want     int
	}{
		{0, point(10), point(40), 100, 25, 25},
		{0, point(10), point(40), 100, 10, 10},
		{0, point(10), point(40), 100, 9, 10},
		{0, point(10), point(40), 100, 40, 40},
		{0, point(10), point(40), 100, 41, 40},
		{0, point(10), point(40), 100, math.MinInt, 10},
		{0, point(10), point(40), 100, math.MaxInt, 40},
		{0, point(10), point(10), 100, 25, 10},
		// A maximum less than the minimum gives way to it.
		{0, point(50), point(40), 100, 45, 50},
		{0, point(50), point(40), 100, 30, 50},
		{0, point(50), point(40), 100, 60, 50},
		{0, point(50), point(49), 100, 50, 50},
		{0, point(50), point(0), 100, 60, 50},
		{0, point(impl.MaxLen), point(0), 100, 7, impl.MaxLen},
		{0, percent(50), percent(40), 100, 45, 50},
		{0, percent(50), point(40), 100, 60, 50},
		{0, percent(50), point(40), 60, 60, 40},
		{0, point(50), percent(40), 100, 60, 50},
		// And so does a maximum less than the frame.
		{50, none(0), point(40), 100, 45, 50},
		{50, none(0), point(40), 100, 30, 50},
		{50, none(0), point(40), 100, 60, 50},
		{50, point(45), point(40), 100, 60, 50},
		{50, point(55), point(40), 100, 60, 55},
		{50, point(20), point(70), 100, 30, 50},
		{50, point(20), point(70), 100, 60, 60},
		{50, point(20), point(70), 100, 80, 70},
		{impl.MaxLen, none(0), point(0), 100, 0, impl.MaxLen},
		{math.MaxInt, none(0), point(0), 100, 0, impl.MaxLen},
		{math.MinInt, none(0), none(0), 100, -7, 0},
		// What is unknown is no bound, but a maximum of 0 is one.
		{0, none(0), none(0), 100, 25, 25},
		{0, auto(0), auto(0), 100, 25, 25},
		{0, none(0), point(0), 100, 25, 0},
		{0, none(0), percent(0), 100, 25, 0},
		{0, none(0), percent(50), 0, 25, 0},
		{0, none(0), percent(50), impl.Unknown, 25, 25},
		{0, percent(50), none(0), impl.Unknown, 25, 25},
		{0, percent(50), percent(40), impl.Unknown, 45, 45},
		{7, percent(50), percent(40), impl.Unknown, 5, 7},
		{0, percent(50), percent(60), 0, 45, 0},
		{0, percent(50), percent(60), impl.MaxLen, 45, 524288},
		{0, percent(50), percent(60), math.MaxInt, math.MaxInt, 629145},
		{0, percent(50), percent(60), math.MinInt, 45, 45},
		// The result is a length, even without a bound.
		{0, none(0), none(0), 100, 0, 0},
		{0, none(0), none(0), 100, -1, 0},
		{0, none(0), none(0), 100, math.MinInt, 0},
		{0, none(0), none(0), 100, impl.MaxLen, impl.MaxLen},
		{0, none(0), none(0), 100, impl.MaxLen + 1, impl.MaxLen},
		{0, none(0), none(0), 100, math.MaxInt, impl.MaxLen},
		{0, point(math.MaxInt), point(math.MinInt), 100, 0, impl.MaxLen},
		{0, point(math.MinInt), point(math.MaxInt), 100, math.MaxInt, impl.MaxLen},
		{0, point(math.MinInt), point(math.MinInt), 100, 5, 0},
	} {
		for _, wide := range bothDimensions() {
			d := framed(c.frame)
			d.fixed, d.least, d.most = point(17), c.least, c.most
			for _, base := range anyStyles() {
				if got := impl.Bounded(withSpan(base, wide, d), wide, c.base, c.n); got != c.want {
					t.Errorf("Bounded(%v) of %d with a frame of %d and from %d to %d of %d = %d, not %d", wide, c.n, c.frame, c.least, c.most, c.base, got, c.want)
				}
			}
		}
	}
}

// TestNoBoxIsSmallerThanItsPaddingAndBorder is promise 8, with the sums of the document beside it.
func TestNoBoxIsSmallerThanItsPaddingAndBorder(t *testing.T) {
	for _, f := range frameNumbers() {
		for _, least := range boundValues() {
			for _, most := range boundValues() {
				d := span{least: least, most: most, pad: [2]int{f[0], f[1]}, border: [2]int{f[2], f[3]}}
				for _, wide := range bothDimensions() {
					checkBounds(t, withSpan(fullStyle(), wide, d), wide, d)
				}
			}
		}
	}
}

func checkBounds(t *testing.T, s impl.Style, wide bool, d span) {
	t.Helper()
	frame := impl.FrameSize(s, wide)
	if frame != wantFrame(d) || frame < 0 || frame > impl.MaxLen {
		t.Errorf("FrameSize(%v) with %d and %d = %d", wide, d.pad, d.border, frame)
	}
	for _, base := range []int{math.MinInt, impl.Unknown, 0, 100, impl.MaxLen, math.MaxInt} {
		least, most := impl.LeastOf(s, wide, base), impl.MostOf(s, wide, base)
		if least != wantLeast(d, base) || most != wantSize(d.most, base) {
			t.Errorf("the bounds (%v) of %+v in %d are %d and %d", wide, d, base, least, most)
		}
		if least < frame {
			t.Errorf("LeastOf(%v) of %+v in %d = %d, less than the frame of %d", wide, d, base, least, frame)
		}
		for _, n := range []int{math.MinInt, -1, 0, 30, 60, impl.MaxLen, math.MaxInt} {
			got := impl.Bounded(s, wide, base, n)
			if got != wantBounded(d, base, n) {
				t.Errorf("Bounded(%v) of %d with %+v in %d = %d", wide, n, d, base, got)
			}
			if got < frame || got < least || got > impl.MaxLen {
				t.Errorf("Bounded(%v) of %d with %+v in %d = %d, outside of its limits", wide, n, d, base, got)
			}
			if most >= least && got > most {
				t.Errorf("Bounded(%v) of %d with %+v in %d = %d, more than %d", wide, n, d, base, got, most)
			}
			if again := impl.Bounded(s, wide, base, got); again != got {
				t.Errorf("Bounded(%v) of its own result %d with %+v in %d = %d", wide, got, d, base, again)
			}
		}
	}
}

func TestSizesOfEachValueAndBase(t *testing.T) {
	for _, v := range edgeValues() {
		for _, base := range boundBases() {
			for _, wide := range bothDimensions() {
				// The other dimension has other numbers, which are not these.
				size := wantSize(v, base)
				if got := impl.LeastOf(withSpan(fullStyle(), wide, span{least: v}), wide, base); got != max(size, 0) {
					t.Errorf("LeastOf(%v) with the minimum %d of %d = %d", wide, v, base, got)
				}
				if got := impl.MostOf(withSpan(fullStyle(), wide, span{most: v}), wide, base); got != size {
					t.Errorf("MostOf(%v) with the maximum %d of %d = %d", wide, v, base, got)
				}
				if got := impl.FixedOf(withSpan(fullStyle(), wide, span{fixed: v}), wide, base); got != size {
					t.Errorf("FixedOf(%v) with the size %d of %d = %d", wide, v, base, got)
				}
			}
		}
	}
}

func TestByRatio(t *testing.T) {
	for _, c := range []struct {
		ratio, other, wide, high int
	}{
		// As wide as high.
		{64, 0, 0, 0},
		{64, 10, 10, 10},
		{64, impl.MaxLen, impl.MaxLen, impl.MaxLen},
		{128, 10, 20, 5},
		{32, 10, 5, 20},
		{96, 10, 15, 6},
		// A ratio that does not divide evenly is rounded down.
		{96, 11, 16, 7},
		{65, 10, 10, 9},
		{63, 10, 9, 10},
		{100, 7, 10, 4},
		{3, 50, 2, 1066},
		{1, 10, 0, 640},
		{1, 63, 0, 4032},
		{1, 64, 1, 4096},
		{1, 0, 0, 0},
		{mostRatio, 10, 1000, 0},
		{mostRatio, 99, 9900, 0},
		{mostRatio, 100, 10000, 1},
		{mostRatio, 0, 0, 0},
		// The limit of a valid ratio is not one of this function.
		{mostRatio + 1, 64, 6401, 0},
		{mostRatio + 1, impl.MaxLen, impl.MaxLen, 10484},
		{mostRatio, impl.MaxLen, impl.MaxLen, 10485},
		// A result beyond MaxLen is clamped.
		{1, impl.MaxLen, 16384, impl.MaxLen},
		{1, 16384, 256, impl.MaxLen},
		{1, 16383, 255, 1048512},
		{1, 16385, 256, impl.MaxLen},
		{65, impl.MaxLen, impl.MaxLen, 1032444},
		{63, impl.MaxLen, 1032192, impl.MaxLen},
		{mostRatio, 10485, 1048500, 104},
		{mostRatio, 10486, impl.MaxLen, 104},
		// The other size is clamped before.
		{64, impl.MaxLen + 1, impl.MaxLen, impl.MaxLen},
		{32, impl.MaxLen + 9, 524288, impl.MaxLen},
		{128, impl.MaxLen + 9, impl.MaxLen, 524288},
		{32, math.MaxInt, 524288, impl.MaxLen},
		{128, math.MaxInt, impl.MaxLen, 524288},
		{1, math.MaxInt, 16384, impl.MaxLen},
		// And so is the ratio.
		{impl.MaxLen, 1, 16384, 0},
		{impl.MaxLen, 16384, impl.MaxLen, 1},
		{impl.MaxLen + 1, 1, 16384, 0},
		{impl.MaxLen + 64, 1, 16384, 0},
		{impl.MaxLen + 64, 16384, impl.MaxLen, 1},
		{math.MaxInt, 1, 16384, 0},
		{math.MaxInt, 16384, impl.MaxLen, 1},
		{math.MaxInt, impl.MaxLen, impl.MaxLen, 64},
		{math.MaxInt, math.MaxInt, impl.MaxLen, 64},
		{math.MaxInt, 0, 0, 0},
		// Without a ratio, nothing follows.
		{0, 10, impl.Unknown, impl.Unknown},
		{0, 0, impl.Unknown, impl.Unknown},
		{0, math.MaxInt, impl.Unknown, impl.Unknown},
		{-1, 10, impl.Unknown, impl.Unknown},
		{-64, 10, impl.Unknown, impl.Unknown},
		{math.MinInt, 10, impl.Unknown, impl.Unknown},
		{math.MinInt, math.MaxInt, impl.Unknown, impl.Unknown},
		// Nor from an unknown size.
		{64, impl.Unknown, impl.Unknown, impl.Unknown},
		{64, -2, impl.Unknown, impl.Unknown},
		{64, -impl.MaxLen, impl.Unknown, impl.Unknown},
		{64, math.MinInt, impl.Unknown, impl.Unknown},
		{math.MaxInt, math.MinInt, impl.Unknown, impl.Unknown},
		{-64, -10, impl.Unknown, impl.Unknown},
		{0, impl.Unknown, impl.Unknown, impl.Unknown},
		{math.MinInt, math.MinInt, impl.Unknown, impl.Unknown},
	} {
		for _, base := range anyStyles() {
			s := withRatio(base, c.ratio)
			if wide, high := impl.ByRatio(s, true, c.other), impl.ByRatio(s, false, c.other); wide != c.wide || high != c.high {
				t.Errorf("ByRatio of %d with %d = %d and %d, not %d and %d", c.other, c.ratio, wide, high, c.wide, c.high)
			}
		}
	}
}

func TestByRatioIsExactAndWithinTheLimits(t *testing.T) {
	ratios := append(edgeNumbers(), -64, 63, 64, 65, 128, mostRatio-1, mostRatio, mostRatio+1)
	others := append(edgeNumbers(), 63, 64, 65, 16383, 16384, 16385)
	for n := range 200 {
		ratios, others = append(ratios, n), append(others, n)
	}
	for _, ratio := range ratios {
		s := withRatio(fullStyle(), ratio)
		for _, other := range others {
			for _, wide := range bothDimensions() {
				got := impl.ByRatio(s, wide, other)
				if want := wantRatio(ratio, wide, other); got != want {
					t.Errorf("ByRatio(%v) of %d with %d = %d, not %d", wide, other, ratio, got, want)
				}
				if unknown := ratio <= 0 || other < 0; unknown != (got == impl.Unknown) || !unknown && (got < 0 || got > impl.MaxLen) {
					t.Errorf("ByRatio(%v) of %d with %d = %d", wide, other, ratio, got)
				}
			}
		}
	}
}

func TestGivenOf(t *testing.T) {
	for _, c := range []struct {
		fixed       impl.Value
		ratio       int
		base, other int
		wide, high  int
	}{
		// The fixed size takes precedence over the ratio.
		{point(50), 0, 100, 10, 50, 50},
		{point(50), 128, 100, 10, 50, 50},
		{point(50), 128, impl.Unknown, impl.Unknown, 50, 50},
		{point(0), 128, 100, 10, 0, 0},
		{percent(50), 128, 100, 10, 50, 50},
		{percent(0), 128, 100, 10, 0, 0},
		{percent(50), 128, 0, 10, 0, 0},
		{percent(50), 128, impl.MaxLen, 10, 524288, 524288},
		{point(-5), 128, 100, 10, 0, 0},
		{point(impl.Unknown), 128, 100, 10, 0, 0},
		{point(math.MinInt), 128, 100, 10, 0, 0},
		{point(math.MaxInt), 128, 100, 10, impl.MaxLen, impl.MaxLen},
		{percent(math.MinInt), 128, 100, 10, 0, 0},
		{percent(math.MaxInt), 128, math.MaxInt, 10, impl.MaxLen, impl.MaxLen},
		// Without one, the ratio decides.
		{none(0), 128, 100, 10, 20, 5},
		{none(5), 128, 100, 10, 20, 5},
		{auto(0), 128, 100, 10, 20, 5},
		{percent(50), 128, impl.Unknown, 10, 20, 5},
		{percent(50), 128, math.MinInt, 10, 20, 5},
		{impl.Value{Kind: 4, N: 5}, 128, 100, 10, 20, 5},
		{none(0), 96, 100, 11, 16, 7},
		{none(0), 128, 100, 0, 0, 0},
		{none(0), 128, 100, math.MaxInt, impl.MaxLen, 524288},
		{none(0), 1, 100, impl.MaxLen, 16384, impl.MaxLen},
		{none(0), math.MaxInt, 100, 1, 16384, 0},
		// Without both, nothing is given.
		{none(0), 0, 100, 10, impl.Unknown, impl.Unknown},
		{auto(0), 0, 100, 10, impl.Unknown, impl.Unknown},
		{percent(50), 0, impl.Unknown, 10, impl.Unknown, impl.Unknown},
		{none(0), -1, 100, 10, impl.Unknown, impl.Unknown},
		{none(0), math.MinInt, 100, math.MaxInt, impl.Unknown, impl.Unknown},
		{none(0), 128, 100, impl.Unknown, impl.Unknown, impl.Unknown},
		{none(0), 128, 100, math.MinInt, impl.Unknown, impl.Unknown},
		{percent(50), 128, impl.Unknown, impl.Unknown, impl.Unknown, impl.Unknown},
	} {
		// Neither the frame nor a bound changes what is given.
		for _, d := range []span{{fixed: c.fixed}, {fixed: c.fixed, least: point(800), most: point(1), pad: [2]int{70, 6}}} {
			for _, base := range anyStyles() {
				s := withRatio(base, c.ratio)
				wide := impl.GivenOf(withSpan(s, true, d), true, c.base, c.other)
				high := impl.GivenOf(withSpan(s, false, d), false, c.base, c.other)
				if wide != c.wide || high != c.high {
					t.Errorf("GivenOf with %d of %d and %d with the ratio %d = %d and %d, not %d and %d", c.fixed, c.base, c.other, c.ratio, wide, high, c.wide, c.high)
				}
			}
		}
	}
}

func TestGivenOfEachValueBaseAndRatio(t *testing.T) {
	for _, v := range boundValues() {
		d := span{fixed: v}
		for _, ratio := range []int{math.MinInt, -1, 0, 1, 64, 100, mostRatio, math.MaxInt} {
			for _, base := range boundBases() {
				for _, other := range lengthNumbers() {
					for _, wide := range bothDimensions() {
						s := withRatio(withSpan(fullStyle(), wide, d), ratio)
						if got, want := impl.GivenOf(s, wide, base, other), wantGiven(s, d, wide, base, other); got != want {
							t.Errorf("GivenOf(%v) with %d of %d and %d with the ratio %d = %d, not %d", wide, v, base, other, ratio, got, want)
						}
					}
				}
			}
		}
	}
}

// boundsOf holds the results of the chapter that are for one dimension.
func boundsOf(s impl.Style, wide bool, base, n int) map[string]int {
	return map[string]int{
		"LeastOf":   impl.LeastOf(s, wide, base),
		"MostOf":    impl.MostOf(s, wide, base),
		"Bounded":   impl.Bounded(s, wide, base, n),
		"FixedOf":   impl.FixedOf(s, wide, base),
		"ByRatio":   impl.ByRatio(s, wide, n),
		"GivenOf":   impl.GivenOf(s, wide, base, n),
		"FrameSize": impl.FrameSize(s, wide),
	}
}

// readPaths holds the fields that each function reads, as parts of spanPaths.
func readPaths(name string, wide bool) []string {
	paths := spanPaths(wide)
	return map[string][]string{
		"LeastOf":   append(paths[3:7:7], paths[1]),
		"MostOf":    paths[2:3],
		"Bounded":   paths[1:7],
		"FixedOf":   paths[0:1],
		"ByRatio":   {".Ratio"},
		"GivenOf":   {paths[0], ".Ratio"},
		"FrameSize": paths[3:7],
	}[name]
}

func TestBoundsDependOnTheirFieldsAlone(t *testing.T) {
	for _, s := range anyStyles() {
		for path, changed := range changedStyles(s) {
			for _, wide := range bothDimensions() {
				for _, base := range []int{impl.Unknown, 0, 100, math.MaxInt} {
					before, after := boundsOf(s, wide, base, 100), boundsOf(changed, wide, base, 100)
					for name := range before {
						if !startsWithAny(path, readPaths(name, wide)) && before[name] != after[name] {
							t.Errorf("a change of %s changes %s(%v) from %d to %d", path, name, wide, before[name], after[name])
						}
					}
				}
			}
		}
	}
}

func startsWithAny(path string, starts []string) bool {
	for _, start := range starts {
		if strings.HasPrefix(path, start) {
			return true
		}
	}
	return false
}

func TestBoundsOfTheEndsOfInt(t *testing.T) {
	ends := []int{math.MinInt, math.MaxInt}
	for _, number := range ends {
		for _, kind := range []int{math.MinInt, 0, 1, 2, 3, math.MaxInt} {
			v := impl.Value{Kind: kind, N: number}
			d := span{fixed: v, least: v, most: v, pad: [2]int{number, number}, border: [2]int{number, number}}
			for _, wide := range bothDimensions() {
				for _, base := range ends {
					for _, n := range ends {
						// Every other number of the style is at the same end.
						s := withSpan(evenStyle(number, true), wide, d)
						want := map[string]int{
							"LeastOf":   wantLeast(d, base),
							"MostOf":    wantSize(v, base),
							"Bounded":   wantBounded(d, base, n),
							"FixedOf":   wantSize(v, base),
							"ByRatio":   wantRatio(number, wide, n),
							"GivenOf":   wantGiven(s, d, wide, base, n),
							"FrameSize": wantFrame(d),
						}
						for name, got := range boundsOf(s, wide, base, n) {
							if got != want[name] {
								t.Errorf("%s(%v) with %d everywhere, base %d and %d = %d, not %d", name, wide, number, base, n, got, want[name])
							}
						}
					}
				}
			}
		}
	}
}
