package tests

import (
	"math"
	"math/big"
	"slices"
	"strconv"
	"testing"

	"loop.example/g00972/impl"
)

func free(n int) impl.Space    { return impl.Space{Mode: impl.SpFree, N: n} }
func atMost(n int) impl.Space  { return impl.Space{Mode: impl.SpMost, N: n} }
func exactly(n int) impl.Space { return impl.Space{Mode: impl.SpExact, N: n} }

// otherModes holds numbers that are no mode, of which some have the lowest bits of one.
func otherModes() []int {
	return slices.DeleteFunc(choiceNumbers(), func(n int) bool { return n >= 1 && n <= 3 })
}

// otherSpaces holds a space of each number that is no mode.
func otherSpaces(n int) []impl.Space {
	var list []impl.Space
	for _, mode := range otherModes() {
		list = append(list, impl.Space{Mode: mode, N: n})
	}
	return list
}

// spaceNumbers holds the limits of a length, the ends of int and each number around a small N.
func spaceNumbers() []int {
	return append(edgeNumbers(), 6, 8, 48, 49, 50, 51, 52)
}

// edgeSpaces holds each mode, and each number that is none, with each number.
func edgeSpaces() []impl.Space {
	var list []impl.Space
	for _, n := range spaceNumbers() {
		list = append(list, free(n), atMost(n), exactly(n))
		list = append(list, otherSpaces(n)...)
	}
	return list
}

// The functions named want.. follow the sentences of the document and share nothing with the program.
func wantSpace(s impl.Space) bool {
	limits := map[int]int{1: 0, 2: 1048576, 3: 1048576}
	limit, exists := limits[s.Mode]
	return exists && s.N >= 0 && s.N <= limit
}

func wantInner(s impl.Space, less int) impl.Space {
	if s.Mode == 1 {
		return s
	}
	rest := new(big.Int).Sub(bigOf(wantClamped(s.N)), bigOf(wantClamped(less)))
	return impl.Space{Mode: s.Mode, N: int(bigClamp(rest, 0, 1048576).Int64())}
}

func wantTaken(s impl.Space, n int) int {
	if s.Mode == 3 || s.Mode == 2 && s.N < n {
		return wantClamped(s.N)
	}
	return wantClamped(n)
}

func wantRoom(s impl.Space) int {
	if s.Mode == 2 || s.Mode == 3 {
		return s.N
	}
	return -1
}

func wantLoosened(s impl.Space) impl.Space {
	if s.Mode == 3 {
		return impl.Space{Mode: 2, N: s.N}
	}
	return s
}

func wantExactOr(n int, s impl.Space) impl.Space {
	if n == -1 {
		return s
	}
	return impl.Space{Mode: 3, N: wantClamped(n)}
}

func wantSpaceText(s impl.Space) string {
	if !wantSpace(s) {
		return "?"
	}
	number := strconv.Itoa(s.N)
	return map[int]string{1: "free", 2: "most " + number, 3: "exact " + number}[s.Mode]
}

func TestSpacesConstants(t *testing.T) {
	// The constants have no type, so they also fit in variables of another one.
	got := [3]int8{impl.SpFree, impl.SpMost, impl.SpExact}
	if got != [3]int8{1, 2, 3} {
		t.Error("constants", got)
	}
	if impl.SpaceOk(impl.Space{}) {
		t.Error("the zero Space is valid")
	}
}

func TestSpaceOk(t *testing.T) {
	for _, c := range []struct {
		s    impl.Space
		want bool
	}{
		{free(0), true},
		{free(1), false},
		{free(-1), false},
		{free(7), false},
		{free(impl.MaxLen), false},
		{free(impl.MaxLen + 1), false},
		{free(math.MinInt), false},
		{free(math.MaxInt), false},
		{atMost(50), true},
		{atMost(0), true},
		{atMost(1), true},
		{atMost(-1), false},
		{atMost(-7), false},
		{atMost(impl.MaxLen - 1), true},
		{atMost(impl.MaxLen), true},
		{atMost(impl.MaxLen + 1), false},
		{atMost(math.MinInt), false},
		{atMost(math.MaxInt), false},
		{exactly(50), true},
		{exactly(0), true},
		{exactly(1), true},
		{exactly(-1), false},
		{exactly(-7), false},
		{exactly(impl.MaxLen - 1), true},
		{exactly(impl.MaxLen), true},
		{exactly(impl.MaxLen + 1), false},
		{exactly(math.MinInt), false},
		{exactly(math.MaxInt), false},
		// There are no such modes.
		{impl.Space{}, false},
		{impl.Space{N: 50}, false},
		{impl.Space{Mode: -1}, false},
		{impl.Space{Mode: -1, N: 50}, false},
		{impl.Space{Mode: 4}, false},
		{impl.Space{Mode: 4, N: 50}, false},
		{impl.Space{Mode: math.MinInt}, false},
		{impl.Space{Mode: math.MaxInt}, false},
		{impl.Space{Mode: math.MinInt, N: math.MinInt}, false},
		{impl.Space{Mode: math.MaxInt, N: math.MaxInt}, false},
	} {
		if got := impl.SpaceOk(c.s); got != c.want {
			t.Errorf("SpaceOk(%d) = %v", c.s, got)
		}
	}
	for _, s := range edgeSpaces() {
		if got := impl.SpaceOk(s); got != wantSpace(s) {
			t.Errorf("SpaceOk(%d) = %v", s, got)
		}
	}
}

func TestInnerOf(t *testing.T) {
	for _, c := range []struct {
		s    impl.Space
		less int
		want impl.Space
	}{
		{atMost(50), 20, atMost(30)},
		{exactly(50), 20, exactly(30)},
		{atMost(50), 0, atMost(50)},
		{exactly(50), 0, exactly(50)},
		// Nothing is left of a space if all of it, or more, is taken away.
		{atMost(50), 49, atMost(1)},
		{atMost(50), 50, atMost(0)},
		{atMost(50), 51, atMost(0)},
		{exactly(50), 49, exactly(1)},
		{exactly(50), 50, exactly(0)},
		{exactly(50), 51, exactly(0)},
		{atMost(0), 0, atMost(0)},
		{exactly(0), 7, exactly(0)},
		{atMost(50), impl.MaxLen, atMost(0)},
		{exactly(50), math.MaxInt, exactly(0)},
		// A negative less adds nothing.
		{atMost(50), -1, atMost(50)},
		{exactly(50), -20, exactly(50)},
		{atMost(50), math.MinInt, atMost(50)},
		{exactly(0), math.MinInt, exactly(0)},
		// A less beyond the limit takes away no more than the limit.
		{atMost(impl.MaxLen), impl.MaxLen - 1, atMost(1)},
		{atMost(impl.MaxLen), impl.MaxLen, atMost(0)},
		{exactly(impl.MaxLen), impl.MaxLen + 1, exactly(0)},
		{atMost(impl.MaxLen), math.MinInt, atMost(impl.MaxLen)},
		// An N outside of its limits is clamped before the difference.
		{atMost(-7), 0, atMost(0)},
		{exactly(-7), 3, exactly(0)},
		{atMost(-20), -50, atMost(0)},
		{exactly(-20), -50, exactly(0)},
		{atMost(impl.MaxLen + 1), 0, atMost(impl.MaxLen)},
		{exactly(impl.MaxLen + 1), 1, exactly(impl.MaxLen - 1)},
		{atMost(impl.MaxLen + 10), impl.MaxLen + 5, atMost(0)},
		{exactly(math.MaxInt), 7, exactly(impl.MaxLen - 7)},
		{atMost(math.MaxInt), math.MaxInt, atMost(0)},
		{exactly(math.MaxInt), math.MinInt, exactly(impl.MaxLen)},
		{atMost(math.MinInt), math.MaxInt, atMost(0)},
		{exactly(math.MinInt), math.MinInt, exactly(0)},
		// Unlimited space stays as it is, even if it is not valid.
		{free(0), 20, free(0)},
		{free(0), -20, free(0)},
		{free(0), math.MaxInt, free(0)},
		{free(0), math.MinInt, free(0)},
		{free(50), 20, free(50)},
		{free(-7), 20, free(-7)},
		{free(impl.MaxLen + 1), 0, free(impl.MaxLen + 1)},
		{free(math.MaxInt), math.MaxInt, free(math.MaxInt)},
		{free(math.MinInt), math.MinInt, free(math.MinInt)},
		// A mode that does not exist is not SpFree.
		{impl.Space{}, 20, impl.Space{}},
		{impl.Space{N: 50}, 20, impl.Space{N: 30}},
		{impl.Space{Mode: -1, N: 50}, 60, impl.Space{Mode: -1}},
		{impl.Space{Mode: 4, N: -7}, -7, impl.Space{Mode: 4}},
		{impl.Space{Mode: math.MinInt, N: math.MaxInt}, 1, impl.Space{Mode: math.MinInt, N: impl.MaxLen - 1}},
		{impl.Space{Mode: math.MaxInt, N: math.MinInt}, 1, impl.Space{Mode: math.MaxInt}},
	} {
		if got := impl.InnerOf(c.s, c.less); got != c.want {
			t.Errorf("InnerOf(%d, %d) = %d, not %d", c.s, c.less, got, c.want)
		}
	}
	for _, s := range edgeSpaces() {
		for _, less := range spaceNumbers() {
			if got, want := impl.InnerOf(s, less), wantInner(s, less); got != want {
				t.Errorf("InnerOf(%d, %d) = %d, not %d", s, less, got, want)
			}
		}
	}
}

func TestTaken(t *testing.T) {
	for _, c := range []struct {
		s       impl.Space
		n, want int
	}{
		// Content of any size fills an exact space.
		{exactly(50), 20, 50},
		{exactly(50), 49, 50},
		{exactly(50), 50, 50},
		{exactly(50), 51, 50},
		{exactly(50), 70, 50},
		{exactly(50), 0, 50},
		{exactly(50), -7, 50},
		{exactly(50), impl.MaxLen + 1, 50},
		{exactly(50), math.MinInt, 50},
		{exactly(50), math.MaxInt, 50},
		{exactly(0), 7, 0},
		{exactly(0), 0, 0},
		{exactly(impl.MaxLen), 7, impl.MaxLen},
		{exactly(impl.MaxLen), impl.MaxLen + 1, impl.MaxLen},
		// Limited space is limited, but need not be filled.
		{atMost(50), 20, 20},
		{atMost(50), 49, 49},
		{atMost(50), 50, 50},
		{atMost(50), 51, 50},
		{atMost(50), 70, 50},
		{atMost(50), 0, 0},
		{atMost(50), -7, 0},
		{atMost(50), impl.MaxLen + 1, 50},
		{atMost(50), math.MinInt, 0},
		{atMost(50), math.MaxInt, 50},
		{atMost(0), 7, 0},
		{atMost(0), 0, 0},
		{atMost(0), -1, 0},
		{atMost(impl.MaxLen), impl.MaxLen - 1, impl.MaxLen - 1},
		{atMost(impl.MaxLen), impl.MaxLen, impl.MaxLen},
		{atMost(impl.MaxLen), impl.MaxLen + 1, impl.MaxLen},
		{atMost(impl.MaxLen), math.MaxInt, impl.MaxLen},
		// Unlimited space has the limits of a length.
		{free(0), 20, 20},
		{free(0), 0, 0},
		{free(0), -1, 0},
		{free(0), -7, 0},
		{free(0), impl.MaxLen - 1, impl.MaxLen - 1},
		{free(0), impl.MaxLen, impl.MaxLen},
		{free(0), impl.MaxLen + 1, impl.MaxLen},
		{free(0), math.MinInt, 0},
		{free(0), math.MaxInt, impl.MaxLen},
	} {
		if got := impl.Taken(c.s, c.n); got != c.want {
			t.Errorf("Taken(%d, %d) = %d, not %d", c.s, c.n, got, c.want)
		}
	}
}

func TestTakenOfSpacesThatAreNotValid(t *testing.T) {
	for _, c := range []struct {
		s       impl.Space
		n, want int
	}{
		{exactly(-1), 20, 0},
		{exactly(-7), -20, 0},
		{exactly(impl.MaxLen + 1), 20, impl.MaxLen},
		{exactly(math.MinInt), math.MaxInt, 0},
		{exactly(math.MaxInt), math.MinInt, impl.MaxLen},
		{exactly(math.MaxInt), math.MaxInt, impl.MaxLen},
		{atMost(-1), 20, 0},
		{atMost(-1), 0, 0},
		{atMost(-7), -20, 0},
		{atMost(impl.MaxLen + 1), 20, 20},
		{atMost(impl.MaxLen + 1), impl.MaxLen + 2, impl.MaxLen},
		{atMost(math.MinInt), math.MaxInt, 0},
		{atMost(math.MinInt), math.MinInt, 0},
		{atMost(math.MaxInt), math.MaxInt, impl.MaxLen},
		{atMost(math.MaxInt), 7, 7},
		// The N of unlimited space does not matter.
		{free(10), 20, 20},
		{free(10), 5, 5},
		{free(-1), 20, 20},
		{free(math.MinInt), 20, 20},
		{free(math.MaxInt), 20, 20},
		{free(math.MaxInt), math.MinInt, 0},
		{free(math.MinInt), math.MaxInt, impl.MaxLen},
		// A mode that does not exist neither limits the content nor must be filled.
		{impl.Space{}, 20, 20},
		{impl.Space{N: 10}, 20, 20},
		{impl.Space{N: 50}, 20, 20},
		{impl.Space{Mode: -1, N: 10}, 20, 20},
		{impl.Space{Mode: 4, N: 50}, 20, 20},
		{impl.Space{Mode: 4, N: 50}, -7, 0},
		{impl.Space{Mode: -1, N: 10}, impl.MaxLen + 1, impl.MaxLen},
		{impl.Space{Mode: math.MinInt, N: math.MinInt}, math.MaxInt, impl.MaxLen},
		{impl.Space{Mode: math.MaxInt, N: math.MaxInt}, math.MinInt, 0},
	} {
		if got := impl.Taken(c.s, c.n); got != c.want {
			t.Errorf("Taken(%d, %d) = %d, not %d", c.s, c.n, got, c.want)
		}
	}
}

func TestTakenOfEachSpaceAndSize(t *testing.T) {
	for _, s := range edgeSpaces() {
		for _, n := range spaceNumbers() {
			if got, want := impl.Taken(s, n), wantTaken(s, n); got != want {
				t.Errorf("Taken(%d, %d) = %d, not %d", s, n, got, want)
			}
		}
	}
}

// checkTaken compares what content of size n occupies with the room of a valid space.
func checkTaken(t *testing.T, s impl.Space, n int) {
	t.Helper()
	taken, room := impl.Taken(s, n), impl.RoomOf(s)
	if taken < 0 || taken > impl.MaxLen {
		t.Errorf("Taken(%d, %d) = %d, which is no length", s, n, taken)
	}
	if room != impl.Unknown && taken > room {
		t.Errorf("Taken(%d, %d) = %d, but there is only room for %d", s, n, taken, room)
	}
	if s.Mode == impl.SpExact && taken != room {
		t.Errorf("Taken(%d, %d) = %d, which does not fill the space", s, n, taken)
	}
	if s.Mode == impl.SpMost && n >= 0 && taken != min(n, room) {
		t.Errorf("Taken(%d, %d) = %d, where %d fits", s, n, taken, min(n, room))
	}
	if again := impl.Taken(s, taken); again != taken {
		t.Errorf("Taken(%d, %d) = %d, of which Taken is %d", s, n, taken, again)
	}
}

func TestContentNeverOccupiesMoreThanTheAvailableSpace(t *testing.T) {
	for room := range 40 {
		for n := -3; n < 45; n++ {
			checkTaken(t, atMost(room), n)
			checkTaken(t, exactly(room), n)
			checkTaken(t, free(0), n)
		}
	}
	valid := slices.DeleteFunc(edgeSpaces(), func(s impl.Space) bool { return !wantSpace(s) })
	for _, s := range valid {
		sizes := append(spaceNumbers(), s.N-1, s.N, s.N+1, impl.MaxLen-s.N, impl.MaxLen+s.N)
		for _, n := range sizes {
			checkTaken(t, s, n)
		}
	}
}

func TestContentOfTheInnerSpaceFitsIntoTheSpace(t *testing.T) {
	for _, room := range []int{0, 1, 7, 50, impl.MaxLen - 1, impl.MaxLen} {
		for _, less := range []int{0, 1, 7, 49, 50, impl.MaxLen - 1, impl.MaxLen} {
			for _, n := range spaceNumbers() {
				for _, s := range []impl.Space{atMost(room), exactly(room)} {
					inner := impl.InnerOf(s, less)
					checkTaken(t, inner, n)
					if taken := impl.Taken(inner, n); taken+less > max(room, less) {
						t.Errorf("content of size %d occupies %d beside %d of %d", n, taken, less, room)
					}
				}
			}
		}
	}
}

func TestRoomOf(t *testing.T) {
	for _, c := range []struct {
		s    impl.Space
		want int
	}{
		{atMost(50), 50},
		{exactly(50), 50},
		{atMost(0), 0},
		{exactly(0), 0},
		{atMost(impl.MaxLen), impl.MaxLen},
		{exactly(impl.MaxLen), impl.MaxLen},
		{free(0), impl.Unknown},
		// The room is not clamped.
		{atMost(-7), -7},
		{exactly(-7), -7},
		{atMost(-1), -1},
		{exactly(-1), -1},
		{atMost(impl.MaxLen + 1), impl.MaxLen + 1},
		{exactly(impl.MaxLen + 1), impl.MaxLen + 1},
		{atMost(math.MinInt), math.MinInt},
		{atMost(math.MaxInt), math.MaxInt},
		{exactly(math.MinInt), math.MinInt},
		{exactly(math.MaxInt), math.MaxInt},
		// Other space has no known room, whatever its N is.
		{free(50), impl.Unknown},
		{free(-7), impl.Unknown},
		{free(math.MinInt), impl.Unknown},
		{free(math.MaxInt), impl.Unknown},
		{impl.Space{}, impl.Unknown},
		{impl.Space{N: 50}, impl.Unknown},
		{impl.Space{Mode: -1, N: 50}, impl.Unknown},
		{impl.Space{Mode: 4, N: 50}, impl.Unknown},
		{impl.Space{Mode: math.MinInt, N: math.MinInt}, impl.Unknown},
		{impl.Space{Mode: math.MaxInt, N: math.MaxInt}, impl.Unknown},
	} {
		if got := impl.RoomOf(c.s); got != c.want {
			t.Errorf("RoomOf(%d) = %d, not %d", c.s, got, c.want)
		}
	}
	for _, s := range edgeSpaces() {
		if got, want := impl.RoomOf(s), wantRoom(s); got != want {
			t.Errorf("RoomOf(%d) = %d, not %d", s, got, want)
		}
	}
}

func TestLoosened(t *testing.T) {
	for _, c := range []struct {
		s, want impl.Space
	}{
		{exactly(5), atMost(5)},
		{exactly(0), atMost(0)},
		{exactly(impl.MaxLen), atMost(impl.MaxLen)},
		{atMost(5), atMost(5)},
		{atMost(0), atMost(0)},
		{atMost(impl.MaxLen), atMost(impl.MaxLen)},
		{free(0), free(0)},
		// The number is not clamped.
		{exactly(-7), atMost(-7)},
		{exactly(impl.MaxLen + 1), atMost(impl.MaxLen + 1)},
		{exactly(math.MinInt), atMost(math.MinInt)},
		{exactly(math.MaxInt), atMost(math.MaxInt)},
		{atMost(-7), atMost(-7)},
		{atMost(impl.MaxLen + 1), atMost(impl.MaxLen + 1)},
		{atMost(math.MinInt), atMost(math.MinInt)},
		{atMost(math.MaxInt), atMost(math.MaxInt)},
		{free(5), free(5)},
		{free(math.MinInt), free(math.MinInt)},
		{free(math.MaxInt), free(math.MaxInt)},
		{impl.Space{}, impl.Space{}},
		{impl.Space{Mode: -1, N: 5}, impl.Space{Mode: -1, N: 5}},
		{impl.Space{Mode: 4, N: 5}, impl.Space{Mode: 4, N: 5}},
		{impl.Space{Mode: math.MinInt, N: math.MinInt}, impl.Space{Mode: math.MinInt, N: math.MinInt}},
		{impl.Space{Mode: math.MaxInt, N: math.MaxInt}, impl.Space{Mode: math.MaxInt, N: math.MaxInt}},
	} {
		if got := impl.Loosened(c.s); got != c.want {
			t.Errorf("Loosened(%d) = %d, not %d", c.s, got, c.want)
		}
	}
	for _, s := range edgeSpaces() {
		got := impl.Loosened(s)
		if want := wantLoosened(s); got != want {
			t.Errorf("Loosened(%d) = %d, not %d", s, got, want)
		}
		if impl.SpaceOk(got) != impl.SpaceOk(s) || impl.RoomOf(got) != impl.RoomOf(s) {
			t.Errorf("Loosened(%d) = %d, which has another room", s, got)
		}
	}
}

func TestExactOr(t *testing.T) {
	for _, c := range []struct {
		n       int
		s, want impl.Space
	}{
		{7, atMost(50), exactly(7)},
		{7, exactly(50), exactly(7)},
		{7, free(0), exactly(7)},
		// A size beyond the space is not limited by it.
		{70, atMost(50), exactly(70)},
		{70, exactly(50), exactly(70)},
		{impl.MaxLen - 1, atMost(50), exactly(impl.MaxLen - 1)},
		{impl.MaxLen, atMost(50), exactly(impl.MaxLen)},
		{impl.MaxLen + 1, atMost(50), exactly(impl.MaxLen)},
		{math.MaxInt, free(0), exactly(impl.MaxLen)},
		// Beside Unknown, a number is a size.
		{impl.Unknown, atMost(50), atMost(50)},
		{impl.Unknown, exactly(50), exactly(50)},
		{impl.Unknown, free(0), free(0)},
		{impl.Unknown - 1, atMost(50), exactly(0)},
		{impl.Unknown + 1, atMost(50), exactly(0)},
		{impl.Unknown + 2, atMost(50), exactly(1)},
		{-7, free(0), exactly(0)},
		{math.MinInt, exactly(50), exactly(0)},
		// A space that is not valid is returned as it is, too.
		{impl.Unknown, atMost(-7), atMost(-7)},
		{impl.Unknown, exactly(impl.MaxLen + 1), exactly(impl.MaxLen + 1)},
		{impl.Unknown, exactly(math.MinInt), exactly(math.MinInt)},
		{impl.Unknown, atMost(math.MaxInt), atMost(math.MaxInt)},
		{impl.Unknown, free(5), free(5)},
		{impl.Unknown, impl.Space{}, impl.Space{}},
		{impl.Unknown, impl.Space{Mode: 4, N: 5}, impl.Space{Mode: 4, N: 5}},
		{impl.Unknown, impl.Space{Mode: math.MinInt, N: math.MaxInt}, impl.Space{Mode: math.MinInt, N: math.MaxInt}},
		{impl.Unknown, impl.Space{Mode: math.MaxInt, N: math.MinInt}, impl.Space{Mode: math.MaxInt, N: math.MinInt}},
		{7, impl.Space{}, exactly(7)},
		{7, impl.Space{Mode: math.MinInt, N: math.MinInt}, exactly(7)},
		{math.MaxInt, impl.Space{Mode: math.MaxInt, N: math.MaxInt}, exactly(impl.MaxLen)},
	} {
		if got := impl.ExactOr(c.n, c.s); got != c.want {
			t.Errorf("ExactOr(%d, %d) = %d, not %d", c.n, c.s, got, c.want)
		}
	}
	for _, s := range edgeSpaces() {
		for _, n := range spaceNumbers() {
			got, want := impl.ExactOr(n, s), wantExactOr(n, s)
			if got != want {
				t.Errorf("ExactOr(%d, %d) = %d, not %d", n, s, got, want)
			}
			if n != impl.Unknown && !impl.SpaceOk(got) {
				t.Errorf("ExactOr(%d, %d) = %d, which is not valid", n, s, got)
			}
		}
	}
}

func TestSpaceText(t *testing.T) {
	for _, c := range []struct {
		s    impl.Space
		want string
	}{
		{free(0), "free"},
		{atMost(50), "most 50"},
		{atMost(0), "most 0"},
		{atMost(impl.MaxLen - 1), "most 1048575"},
		{atMost(impl.MaxLen), "most 1048576"},
		{exactly(50), "exact 50"},
		{exactly(0), "exact 0"},
		{exactly(impl.MaxLen - 1), "exact 1048575"},
		{exactly(impl.MaxLen), "exact 1048576"},
		// These are not valid.
		{free(1), "?"},
		{free(-1), "?"},
		{free(impl.MaxLen), "?"},
		{free(math.MinInt), "?"},
		{free(math.MaxInt), "?"},
		{atMost(-1), "?"},
		{atMost(impl.MaxLen + 1), "?"},
		{atMost(math.MinInt), "?"},
		{atMost(math.MaxInt), "?"},
		{exactly(-1), "?"},
		{exactly(impl.MaxLen + 1), "?"},
		{exactly(math.MinInt), "?"},
		{exactly(math.MaxInt), "?"},
		{impl.Space{}, "?"},
		{impl.Space{N: 50}, "?"},
		{impl.Space{Mode: -1}, "?"},
		{impl.Space{Mode: 4}, "?"},
		{impl.Space{Mode: 4, N: 50}, "?"},
		{impl.Space{Mode: math.MinInt, N: math.MinInt}, "?"},
		{impl.Space{Mode: math.MaxInt, N: math.MaxInt}, "?"},
	} {
		if got := impl.SpaceText(c.s); got != c.want {
			t.Errorf("SpaceText(%d) = %q, not %q", c.s, got, c.want)
		}
	}
}

func TestSpaceTextTellsValidSpacesApart(t *testing.T) {
	seen := map[string]impl.Space{}
	for _, s := range edgeSpaces() {
		got := impl.SpaceText(s)
		if want := wantSpaceText(s); got != want {
			t.Errorf("SpaceText(%d) = %q, not %q", s, got, want)
		}
		if !wantSpace(s) {
			continue
		}
		if other, found := seen[got]; found && other != s {
			t.Errorf("%d and %d are both %q", other, s, got)
		}
		seen[got] = s
	}
}

func TestSpacesOfTheEndsOfInt(t *testing.T) {
	ends := []int{math.MinInt, math.MaxInt}
	for _, mode := range append(ends, 0, 1, 2, 3) {
		for _, n := range ends {
			s := impl.Space{Mode: mode, N: n}
			got := []any{impl.SpaceOk(s), impl.RoomOf(s), impl.Loosened(s), impl.SpaceText(s), impl.ExactOr(impl.Unknown, s)}
			want := []any{false, wantRoom(s), wantLoosened(s), "?", s}
			for _, m := range ends {
				got = append(got, impl.InnerOf(s, m), impl.Taken(s, m), impl.ExactOr(m, s))
				want = append(want, wantInner(s, m), wantTaken(s, m), wantExactOr(m, s))
			}
			if !slices.Equal(got, want) {
				t.Errorf("the space %d has %v, not %v", s, got, want)
			}
		}
	}
}
