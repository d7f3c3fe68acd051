package tests

import (
	"fmt"
	"math/big"
	"math/rand"
	"slices"
	"testing"

	"loop.example/g00972/impl"
)

// A stacking is what StretchLines and PlaceLines have as their arguments.
type stacking struct {
	content, gap, inner int
	crosses             []int
}

func stacked(content, gap, inner int, crosses ...int) stacking {
	return stacking{content, gap, inner, crosses}
}

func (s stacking) String() string {
	return fmt.Sprintf("content %d, gap %d, inner %d, crosses %d", s.content, s.gap, s.inner, s.crosses)
}

func (s stacking) stretched() []int {
	return impl.StretchLines(s.crosses, s.gap, s.inner, s.content)
}

func (s stacking) places() []int { return impl.PlaceLines(s.crosses, s.gap, s.inner, s.content) }

func (s stacking) valid() bool { return impl.AcrossOk(s.crosses, s.gap, s.inner) }

// free wraps around as an int of 64 bits does.
func (s stacking) free() int {
	return wrapped(new(big.Int).Sub(bigOf(s.inner), bigOf(wantCrossTotal(s.crosses, s.gap))))
}

func (s stacking) with(content int) stacking {
	s.content = content
	return s
}

// everyContent states the values in numbers, so that it shares nothing with the constants of the program.
func everyContent() []int { return []int{1, 2, 3, 4, 5, 6} }

// otherContent holds numbers that are no value of content.
func otherContent() []int {
	return slices.DeleteFunc(choiceNumbers(), func(n int) bool { return n >= 1 && n <= 6 })
}

// The functions named want.. follow the sentences of the document and share nothing with the program.
func wantCrossTotal(crosses []int, gap int) int {
	if len(crosses) == 0 {
		return 0
	}
	total := new(big.Int).Mul(bigOf(gap), bigOf(len(crosses)-1))
	for _, n := range crosses {
		total.Add(total, bigClamp(bigOf(n), -1048576, 1048576))
	}
	return wrapped(total)
}

func wantAcross(s stacking) bool {
	for _, n := range append([]int{s.gap, s.inner}, s.crosses...) {
		if n < 0 || n > 1048576 {
			return false
		}
	}
	return len(s.crosses) <= 12
}

func wantStretched(s stacking) []int {
	list, free, n := slices.Clone(s.crosses), s.free(), len(s.crosses)
	if s.content == 1 && free > 0 && wantAcross(s) {
		for i := range list {
			list[i] += floorOf(free, i+1, n) - floorOf(free, i, n)
		}
	}
	return list
}

// wantAddedLine is all that is added before line i. Shares of one length that follow each other add up to one part of it.
func wantAddedLine(s stacking, free, i int) int {
	n := len(s.crosses)
	switch s.content {
	case 3:
		return free
	case 4:
		return floorOf(free, 1, 2)
	case 5:
		return floorOf(max(free, 0), i, n-1)
	case 6:
		if free < 0 {
			return floorOf(free, 1, 2)
		}
		return floorOf(free, 2*i+1, 2*n)
	}
	return 0
}

func wantLinePlaces(s stacking) []int {
	if !wantAcross(s) {
		return nil
	}
	free := max(-1048576, min(s.free(), 1048576))
	var places []int
	for i := range s.crosses {
		places = append(places, sumOf(s.crosses[:i])+i*s.gap+wantAddedLine(s, free, i))
	}
	return places
}

// checkStretched is promise 16. It holds whatever the document says about the size of a single line.
func checkStretched(t *testing.T, s stacking, sizes []int) {
	t.Helper()
	free := s.free()
	if s.content != 1 || free < 0 || len(s.crosses) == 0 {
		if !slices.Equal(sizes, s.crosses) {
			t.Errorf("StretchLines %v = %d, not as they were", s, sizes)
		}
		return
	}
	if total := impl.CrossTotal(sizes, s.gap); total != s.inner {
		t.Errorf("StretchLines %v = %d, which take up %d", s, sizes, total)
	}
	for i, size := range sizes {
		if more := size - s.crosses[i]; more < free/len(sizes) || more > free/len(sizes)+1 {
			t.Errorf("StretchLines %v = %d, in which line %d grows by %d", s, sizes, i, more)
		}
	}
	// Nothing is left, so that each content has the lines where they fill the space.
	for _, content := range append(everyContent(), 0, 7) {
		again := stacking{content, s.gap, s.inner, sizes}
		places, last := again.places(), len(sizes)-1
		if len(places) != len(sizes) || places[0] != 0 || places[last]+sizes[last] != s.inner {
			t.Errorf("PlaceLines %v = %d, which do not fill the space", again, places)
		}
		if got := again.stretched(); !slices.Equal(got, sizes) {
			t.Errorf("StretchLines %v = %d, which were stretched already", again, got)
		}
	}
}

// checkStacked is about lines that do not overlap, and that are within the space if there is enough of it.
func checkStacked(t *testing.T, s stacking, places []int) {
	t.Helper()
	free, last := s.free(), len(places)-1
	for i := range last {
		if end := places[i] + s.crosses[i] + s.gap; places[i+1] < end || free <= 0 && places[i+1] != end {
			t.Errorf("PlaceLines %v = %d, in which line %d begins at %d, not %d", s, places, i+1, places[i+1], end)
		}
	}
	end := places[last] + s.crosses[last]
	if free >= 0 && (places[0] < 0 || end > s.inner) {
		t.Errorf("PlaceLines %v = %d, beyond the space", s, places)
	}
	if fills := s.content == 3 || s.content == 5 && last > 0 && free >= 0; fills && free >= -1048576 && end != s.inner {
		t.Errorf("PlaceLines %v = %d, which end at %d", s, places, end)
	}
	if free < 0 && s.content == 5 && places[0] != 0 {
		t.Errorf("PlaceLines %v = %d, although nothing is between the lines", s, places)
	}
}

// checkStacking compares the results with the document and with promise 16.
func checkStacking(t *testing.T, s stacking) ([]int, []int) {
	t.Helper()
	if got, want := impl.CrossTotal(s.crosses, s.gap), wantCrossTotal(s.crosses, s.gap); got != want {
		t.Errorf("CrossTotal(%d, %d) = %d, not %d", s.crosses, s.gap, got, want)
	}
	if got, want := s.valid(), wantAcross(s); got != want {
		t.Errorf("AcrossOk %v = %t", s, got)
	}
	sizes, places := s.stretched(), s.places()
	if want := wantStretched(s); !slices.Equal(sizes, want) {
		t.Errorf("StretchLines %v = %d, not %d", s, sizes, want)
	}
	if want := wantLinePlaces(s); !slices.Equal(places, want) {
		t.Errorf("PlaceLines %v = %d, not %d", s, places, want)
	}
	if wantAcross(s) && len(sizes) == len(s.crosses) {
		checkStretched(t, s, sizes)
	}
	if len(places) > 0 && len(places) == len(s.crosses) {
		checkStacked(t, s, places)
	}
	return sizes, places
}

// checkRejected asks for the fixed results of lines that are not valid.
func checkRejected(t *testing.T, s stacking) {
	t.Helper()
	sizes, places := checkStacking(t, s)
	if s.valid() || len(places) != 0 || !slices.Equal(sizes, s.crosses) {
		t.Errorf("%v is valid, or has the sizes %d and the places %d", s, sizes, places)
	}
}

// A stackCase is a stacking with its results, which are written down and not computed.
type stackCase struct {
	stacking
	wantSizes, wantPlaces []int
}

func checkStackCases(t *testing.T, cases []stackCase) {
	t.Helper()
	for _, c := range cases {
		if !c.valid() {
			t.Errorf("%v is not valid", c.stacking)
		}
		if got := c.stretched(); !slices.Equal(got, c.wantSizes) {
			t.Errorf("StretchLines %v = %d, not %d", c.stacking, got, c.wantSizes)
		}
		if got := c.places(); !slices.Equal(got, c.wantPlaces) {
			t.Errorf("PlaceLines %v = %d, not %d", c.stacking, got, c.wantPlaces)
		}
		checkStacking(t, c.stacking)
	}
}

// anyStacking has an inner size that is likely to be near what the lines take up.
func anyStacking(r *rand.Rand, most int) stacking {
	s := stacking{content: r.Intn(8), gap: pick(r, 0, 1, r.Intn(most+1), r.Intn(most/10+1))}
	for range r.Intn(13) {
		s.crosses = append(s.crosses, pick(r, 0, 1, r.Intn(most+1), r.Intn(most+1), most))
	}
	total := wantCrossTotal(s.crosses, s.gap)
	s.inner = pick(r, total, total-1, total+1, total/2, total+r.Intn(most+1), total-r.Intn(most+1), r.Intn(1048577))
	s.inner = max(0, min(s.inner, 1048576))
	return s
}

// stackFeatures names what is to be seen in a stacking.
func stackFeatures(s stacking) []string {
	free, n := s.free(), len(s.crosses)
	list := []string{fmt.Sprintf("%d lines", n), fmt.Sprintf("content %d, free of sign %d", s.content, signOf(free))}
	if free == -1 || free == 1 {
		list = append(list, fmt.Sprintf("content %d, free %d", s.content, free))
	}
	if s.content == 1 && free > 0 && n > 0 && free%n != 0 {
		list = append(list, "stretched lines that are rounded")
	}
	if free < -1048576 {
		list = append(list, "free beyond -MaxLen")
	}
	return list
}
