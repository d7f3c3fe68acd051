package tests

import (
	"fmt"
	"math"
	"math/rand"
	"slices"
	"testing"

	"loop.example/g00972/impl"
)

func TestLeadOf(t *testing.T) {
	for _, c := range []struct {
		free, many, justify, want int
	}{
		{40, 3, impl.JsStart, 0},
		{40, 3, impl.JsEnd, 40},
		{40, 3, impl.JsCenter, 20},
		{40, 3, impl.JsBetween, 0},
		{40, 3, impl.JsAround, 6},
		{40, 3, impl.JsEvenly, 10},
		{41, 3, impl.JsEnd, 41},
		{41, 3, impl.JsCenter, 20},
		{42, 3, impl.JsAround, 7},
		{43, 3, impl.JsEvenly, 10},
		{44, 3, impl.JsEvenly, 11},
		// One item is centered, but for the remainder.
		{40, 1, impl.JsAround, 20},
		{40, 1, impl.JsEvenly, 20},
		{41, 1, impl.JsAround, 20},
		{41, 1, impl.JsEvenly, 20},
		{100, 1, impl.JsBetween, 0},
		{0, 3, impl.JsEnd, 0},
		{0, 3, impl.JsCenter, 0},
		{0, 3, impl.JsAround, 0},
		{0, 3, impl.JsEvenly, 0},
		{1, 3, impl.JsStart, 0},
		{1, 3, impl.JsEnd, 1},
		{1, 3, impl.JsCenter, 0},
		{1, 3, impl.JsBetween, 0},
		{1, 1, impl.JsAround, 0},
		{1, 1, impl.JsEvenly, 0},
		{2, 3, impl.JsCenter, 1},
		{2, 1, impl.JsAround, 1},
		{2, 1, impl.JsEvenly, 1},
		{5, 3, impl.JsAround, 0},
		{6, 3, impl.JsAround, 1},
		{3, 3, impl.JsEvenly, 0},
		{4, 3, impl.JsEvenly, 1},
		// A negative number is rounded down, whatever the number of items.
		{-1, 3, impl.JsStart, 0},
		{-1, 3, impl.JsEnd, -1},
		{-1, 3, impl.JsCenter, -1},
		{-1, 3, impl.JsBetween, 0},
		{-1, 3, impl.JsAround, -1},
		{-1, 3, impl.JsEvenly, -1},
		{-2, 3, impl.JsCenter, -1},
		{-2, 1, impl.JsAround, -1},
		{-2, 12, impl.JsEvenly, -1},
		{-11, 1, impl.JsCenter, -6},
		{-11, 12, impl.JsAround, -6},
		{-11, 12, impl.JsEvenly, -6},
		{-10, 12, impl.JsAround, -5},
		{-10, 1, impl.JsEvenly, -5},
		{-10, 1, impl.JsBetween, 0},
		// Numbers beyond MaxLen are taken as they are, unless they are shared out.
		{impl.MaxLen + 2, 1, impl.JsEnd, impl.MaxLen + 2},
		{impl.MaxLen + 2, 1, impl.JsCenter, impl.MaxLen/2 + 1},
		{impl.MaxLen + 2, 1, impl.JsAround, impl.MaxLen / 2},
		{impl.MaxLen + 2, 1, impl.JsEvenly, impl.MaxLen / 2},
		{-impl.MaxLen - 2, 1, impl.JsEnd, -impl.MaxLen - 2},
		{-impl.MaxLen - 2, 1, impl.JsCenter, -impl.MaxLen/2 - 1},
		{-impl.MaxLen - 2, 1, impl.JsAround, -impl.MaxLen/2 - 1},
		{-impl.MaxLen - 2, 1, impl.JsEvenly, -impl.MaxLen/2 - 1},
		{math.MinInt, 1, impl.JsEnd, math.MinInt},
		{math.MinInt, 1, impl.JsAround, math.MinInt / 2},
		{math.MaxInt, 1, impl.JsEnd, math.MaxInt},
		{math.MaxInt, 1, impl.JsCenter, math.MaxInt / 2},
		{math.MaxInt, 8, impl.JsAround, impl.MaxLen / 16},
		{math.MaxInt, 7, impl.JsEvenly, impl.MaxLen / 8},
	} {
		if got := impl.LeadOf(c.free, c.many, c.justify); got != c.want || got != wantLead(c.free, c.many, c.justify) {
			t.Errorf("LeadOf(%d, %d, %d) = %d, not %d", c.free, c.many, c.justify, got, c.want)
		}
	}
}

func TestLeadOfNumbersOfItems(t *testing.T) {
	for _, c := range []struct{ many, end, center, around, evenly int }{
		{-1, 0, 0, 0, 0},
		{0, 0, 0, 0, 0},
		{1, 312, 156, 156, 156},
		{2, 312, 156, 78, 104},
		{11, 312, 156, 14, 26},
		{12, 312, 156, 13, 24},
		{13, 0, 0, 0, 0},
		{14, 0, 0, 0, 0},
		{31, 0, 0, 0, 0},
		{64, 0, 0, 0, 0},
		{math.MinInt, 0, 0, 0, 0},
		{math.MaxInt, 0, 0, 0, 0},
		{1<<32 + 1, 0, 0, 0, 0},
	} {
		for at, want := range []int{0, c.end, c.center, 0, c.around, c.evenly} {
			if got := impl.LeadOf(312, c.many, at+1); got != want {
				t.Errorf("LeadOf(312, %d, %d) = %d, not %d", c.many, at+1, got, want)
			}
		}
	}
	for _, many := range []int{0, -1, 13, math.MinInt, math.MaxInt} {
		for _, justify := range everyJustify() {
			for _, free := range []int{-10, 0, 10} {
				if got := impl.LeadOf(free, many, justify); got != 0 {
					t.Errorf("LeadOf(%d, %d, %d) = %d", free, many, justify, got)
				}
			}
		}
	}
}

func TestLeadOfAnyNumbers(t *testing.T) {
	many := append(edgeNumbers(), 11, 12, 13, 14, 32, 63, 64, 65)
	for n := range 11 {
		many = append(many, n)
	}
	for _, free := range append(edgeNumbers(), -3, 3, 23, 24, 25, 47) {
		for _, n := range many {
			for _, justify := range choiceNumbers() {
				if got, want := impl.LeadOf(free, n, justify), wantLead(free, n, justify); got != want {
					t.Errorf("LeadOf(%d, %d, %d) = %d, not %d", free, n, justify, got, want)
				}
			}
		}
	}
}

func TestPlacesAlong(t *testing.T) {
	three := allSized(20, 20, 20)
	mixed := allSized(10, 30, 20)
	pair := []sizedItem{sized(20).margins(3, 4), sized(20).margins(5, 6)}
	checkPlaceCases(t, []placeCase{
		{along(impl.JsStart, 0, 100, three...), []int{0, 20, 40}, 60},
		{along(impl.JsEnd, 0, 100, three...), []int{40, 60, 80}, 100},
		{along(impl.JsCenter, 0, 100, three...), []int{20, 40, 60}, 80},
		{along(impl.JsBetween, 0, 100, three...), []int{0, 40, 80}, 100},
		{along(impl.JsAround, 0, 100, three...), []int{6, 40, 73}, 93},
		{along(impl.JsEvenly, 0, 100, three...), []int{10, 40, 70}, 90},
		{along(impl.JsStart, 0, 100, mixed...), []int{0, 10, 40}, 60},
		{along(impl.JsEnd, 0, 100, mixed...), []int{40, 50, 80}, 100},
		{along(impl.JsCenter, 0, 100, mixed...), []int{20, 30, 60}, 80},
		{along(impl.JsBetween, 0, 100, mixed...), []int{0, 30, 80}, 100},
		{along(impl.JsAround, 0, 100, mixed...), []int{6, 30, 73}, 93},
		{along(impl.JsEvenly, 0, 100, mixed...), []int{10, 30, 70}, 90},
		// A gap is between two items, and not at the ends.
		{along(impl.JsStart, 10, 100, three...), []int{0, 30, 60}, 80},
		{along(impl.JsEnd, 10, 100, three...), []int{20, 50, 80}, 100},
		{along(impl.JsCenter, 10, 100, three...), []int{10, 40, 70}, 90},
		{along(impl.JsBetween, 10, 100, three...), []int{0, 40, 80}, 100},
		{along(impl.JsAround, 5, 100, three...), []int{5, 40, 75}, 95},
		{along(impl.JsEvenly, 10, 100, three...), []int{5, 40, 75}, 95},
		// The margins are beside their item.
		{along(impl.JsStart, 2, 100, pair...), []int{3, 34}, 60},
		{along(impl.JsEnd, 2, 100, pair...), []int{43, 74}, 100},
		{along(impl.JsCenter, 2, 100, pair...), []int{23, 54}, 80},
		{along(impl.JsBetween, 2, 100, pair...), []int{3, 74}, 100},
		{along(impl.JsAround, 2, 100, pair...), []int{13, 64}, 90},
		{along(impl.JsEvenly, 2, 100, pair...), []int{16, 60}, 86},
		// The size that is given counts, and not the one that the item has of its own.
		{placing{impl.JsEnd, 0, 100, rigids(70, 70), []int{20, 30}}, []int{50, 70}, 100},
		// A size of 0.
		{along(impl.JsBetween, 0, 30, allSized(0, 10, 0)...), []int{0, 10, 30}, 30},
		{along(impl.JsEvenly, 0, 30, allSized(0, 0)...), []int{10, 20}, 20},
	})
}

// TestSmallFreeSpace has a free space that cannot be divided, so that FloorDiv and Evenly round.
func TestSmallFreeSpace(t *testing.T) {
	pair, three := allSized(20, 20), allSized(10, 10, 10)
	for _, c := range []struct {
		inner int
		// The places of the pair in the order of justify, from JsStart to JsEvenly.
		want [6][]int
	}{
		{38, [6][]int{{0, 20}, {-2, 18}, {-1, 19}, {0, 20}, {-1, 19}, {-1, 19}}},
		{39, [6][]int{{0, 20}, {-1, 19}, {-1, 19}, {0, 20}, {-1, 19}, {-1, 19}}},
		{40, [6][]int{{0, 20}, {0, 20}, {0, 20}, {0, 20}, {0, 20}, {0, 20}}},
		{41, [6][]int{{0, 20}, {1, 21}, {0, 20}, {0, 21}, {0, 20}, {0, 20}}},
		{42, [6][]int{{0, 20}, {2, 22}, {1, 21}, {0, 22}, {0, 21}, {0, 21}}},
		{43, [6][]int{{0, 20}, {3, 23}, {1, 21}, {0, 23}, {0, 22}, {1, 22}}},
		{44, [6][]int{{0, 20}, {4, 24}, {2, 22}, {0, 24}, {1, 23}, {1, 22}}},
	} {
		for at, want := range c.want {
			// Nothing is added after the last item.
			checkPlaceCases(t, []placeCase{{along(at+1, 0, c.inner, pair...), want, want[1] + 20}})
		}
	}
	checkPlaceCases(t, []placeCase{
		{along(impl.JsCenter, 0, 35, three...), []int{2, 12, 22}, 32},
		{along(impl.JsBetween, 0, 35, three...), []int{0, 12, 25}, 35},
		{along(impl.JsAround, 0, 35, three...), []int{0, 12, 24}, 34},
		{along(impl.JsEvenly, 0, 35, three...), []int{1, 12, 23}, 33},
		{along(impl.JsBetween, 0, 31, three...), []int{0, 10, 21}, 31},
		{along(impl.JsAround, 0, 31, three...), []int{0, 10, 20}, 30},
		{along(impl.JsEvenly, 0, 31, three...), []int{0, 10, 20}, 30},
		{along(impl.JsBetween, 0, 29, three...), []int{0, 10, 20}, 30},
		{along(impl.JsEvenly, 0, 29, three...), []int{-1, 9, 19}, 29},
	})
}

func TestNegativeFreeSpaceAlong(t *testing.T) {
	pair, three := allSized(30, 30), allSized(20, 20, 20)
	spaced := []sizedItem{sized(20).margins(3, 4), sized(20).margins(5, 6)}
	checkPlaceCases(t, []placeCase{
		{along(impl.JsStart, 0, 50, pair...), []int{0, 30}, 60},
		{along(impl.JsEnd, 0, 50, pair...), []int{-10, 20}, 50},
		{along(impl.JsCenter, 0, 50, pair...), []int{-5, 25}, 55},
		{along(impl.JsBetween, 0, 50, pair...), []int{0, 30}, 60},
		{along(impl.JsAround, 0, 50, pair...), []int{-5, 25}, 55},
		{along(impl.JsEvenly, 0, 50, pair...), []int{-5, 25}, 55},
		{along(impl.JsEnd, 0, 49, pair...), []int{-11, 19}, 49},
		{along(impl.JsCenter, 0, 49, pair...), []int{-6, 24}, 54},
		{along(impl.JsAround, 0, 49, pair...), []int{-6, 24}, 54},
		{along(impl.JsEvenly, 0, 49, pair...), []int{-6, 24}, 54},
		{along(impl.JsStart, 0, 0, three...), []int{0, 20, 40}, 60},
		{along(impl.JsEnd, 0, 0, three...), []int{-60, -40, -20}, 0},
		{along(impl.JsCenter, 0, 0, three...), []int{-30, -10, 10}, 30},
		{along(impl.JsBetween, 0, 0, three...), []int{0, 20, 40}, 60},
		{along(impl.JsAround, 0, 0, three...), []int{-30, -10, 10}, 30},
		{along(impl.JsEvenly, 0, 0, three...), []int{-30, -10, 10}, 30},
		// Gaps and margins stay as they are.
		{along(impl.JsStart, 20, 50, allSized(20, 20)...), []int{0, 40}, 60},
		{along(impl.JsEnd, 20, 50, allSized(20, 20)...), []int{-10, 30}, 50},
		{along(impl.JsCenter, 20, 50, allSized(20, 20)...), []int{-5, 35}, 55},
		{along(impl.JsBetween, 20, 50, allSized(20, 20)...), []int{0, 40}, 60},
		{along(impl.JsAround, 20, 50, allSized(20, 20)...), []int{-5, 35}, 55},
		{along(impl.JsStart, 2, 41, spaced...), []int{3, 34}, 60},
		{along(impl.JsEnd, 2, 41, spaced...), []int{-16, 15}, 41},
		{along(impl.JsCenter, 2, 41, spaced...), []int{-7, 24}, 50},
		{along(impl.JsBetween, 2, 41, spaced...), []int{3, 34}, 60},
		{along(impl.JsAround, 2, 41, spaced...), []int{-7, 24}, 50},
		{along(impl.JsEvenly, 2, 41, spaced...), []int{-7, 24}, 50},
	})
}

func TestAutoMargins(t *testing.T) {
	x := sized(20)
	before, behind, both := x.autos(true, false), x.autos(false, true), x.autos(true, true)
	cases := []placeCase{
		// On one side, on the other one, and on both.
		{along(0, 0, 100, before), []int{80}, 100},
		{along(0, 0, 100, behind), []int{0}, 100},
		{along(0, 0, 100, both), []int{40}, 100},
		{along(0, 0, 101, both), []int{40}, 101},
		{along(0, 0, 21, both), []int{0}, 21},
		{along(0, 0, 21, before), []int{1}, 21},
		{along(0, 0, 21, behind), []int{0}, 21},
		{along(0, 0, 22, both), []int{1}, 22},
		// Items without auto margins beside them.
		{along(0, 0, 100, x, before), []int{0, 80}, 100},
		{along(0, 0, 100, before, x), []int{60, 80}, 100},
		{along(0, 0, 100, x, behind), []int{0, 20}, 100},
		{along(0, 0, 100, behind, x), []int{0, 80}, 100},
		{along(0, 0, 100, x, both, x), []int{0, 40, 80}, 100},
		{along(0, 0, 101, x, both, x), []int{0, 40, 81}, 101},
		{along(0, 10, 101, x, both, x), []int{0, 40, 81}, 101},
		// Several of them, in order.
		{along(0, 0, 100, both, both), []int{15, 65}, 100},
		{along(0, 0, 101, both, both), []int{15, 65}, 101},
		{along(0, 0, 102, both, both), []int{15, 66}, 102},
		{along(0, 0, 103, both, both), []int{15, 67}, 103},
		{along(0, 0, 43, both, x), []int{1, 23}, 43},
		{along(0, 0, 43, x, both), []int{0, 21}, 43},
		{along(0, 0, 43, behind, before), []int{0, 23}, 43},
		{along(0, 0, 63, behind, x, before), []int{0, 21, 43}, 63},
		{along(0, 0, 63, before, x, behind), []int{1, 21, 41}, 63},
		{along(0, 3, 43, both, before), []int{0, 23}, 43},
		{along(0, 2, 43, both, before), []int{0, 23}, 43},
		{along(0, 2, 44, both, before), []int{0, 24}, 44},
		{along(0, 2, 44, before, both), []int{0, 23}, 44},
		// What an auto margin has already is kept.
		{along(0, 0, 100, before.margins(5, 0)), []int{80}, 100},
		{along(0, 0, 100, before.margins(0, 5)), []int{75}, 100},
		{along(0, 0, 100, behind.margins(5, 0)), []int{5}, 100},
		{along(0, 0, 100, behind.margins(0, 5)), []int{0}, 100},
		{along(0, 0, 100, both.margins(5, 15)), []int{35}, 100},
		{along(0, 0, 100, before.margins(-5, 0)), []int{80}, 100},
		{along(0, 0, 100, both.margins(-5, -15)), []int{45}, 100},
		// Nothing is added if there is no free space, or not enough.
		{along(0, 0, 20, both), []int{0}, 20},
		{along(0, 0, 40, before, behind), []int{0, 20}, 40},
		{along(0, 0, 25, both.margins(2, 3)), []int{2}, 25},
		{along(0, 0, 19, both), []int{0}, 20},
		{along(0, 0, 19, before), []int{0}, 20},
		{along(0, 0, 19, behind), []int{0}, 20},
		{along(0, 0, 0, both), []int{0}, 20},
		{along(0, 5, 30, before, both, x), []int{0, 25, 50}, 70},
		{along(0, 0, 10, both.margins(2, 3)), []int{2}, 25},
	}
	// No value of justify matters beside an auto margin.
	for _, c := range cases {
		for _, justify := range append(everyJustify(), otherJustify()...) {
			checkPlaceCases(t, []placeCase{{c.justified(justify), c.want, c.wantEnd}})
		}
	}
	// Without auto margins, it does.
	checkPlaceCases(t, []placeCase{
		{along(impl.JsEnd, 0, 100, x), []int{80}, 100},
		{along(impl.JsEnd, 0, 10, x), []int{-10}, 10},
		{along(impl.JsEnd, 0, 20, x), []int{0}, 20},
	})
}

func TestOneItemAlong(t *testing.T) {
	for _, c := range []struct{ inner, start, end, center, around, evenly int }{
		{100, 0, 80, 40, 40, 40},
		{101, 0, 81, 40, 40, 40},
		{22, 0, 2, 1, 1, 1},
		{21, 0, 1, 0, 0, 0},
		{20, 0, 0, 0, 0, 0},
		{19, 0, -1, -1, -1, -1},
		{18, 0, -2, -1, -1, -1},
		{0, 0, -20, -10, -10, -10},
	} {
		// Nothing follows it, so that nothing is inserted between two items.
		for at, want := range []int{c.start, c.end, c.center, c.start, c.around, c.evenly} {
			for _, gap := range []int{0, 7, impl.MaxLen} {
				checkPlaceCases(t, []placeCase{
					{along(at+1, gap, c.inner, sized(20)), []int{want}, want + 20},
					{along(at+1, gap, c.inner, sized(13).margins(3, 4)), []int{want + 3}, want + 20},
				})
			}
		}
	}
}

func TestNumberOfItemsAlong(t *testing.T) {
	ten := sized(10)
	checkPlaceCases(t, []placeCase{
		{along(impl.JsStart, 0, 240, slices.Repeat([]sizedItem{ten}, 12)...), []int{0, 10, 20, 30, 40, 50, 60, 70, 80, 90, 100, 110}, 120},
		{along(impl.JsAround, 0, 240, slices.Repeat([]sizedItem{ten}, 12)...), []int{5, 25, 45, 65, 85, 105, 125, 145, 165, 185, 205, 225}, 235},
		{along(impl.JsBetween, 0, 230, slices.Repeat([]sizedItem{ten}, 12)...), []int{0, 20, 40, 60, 80, 100, 120, 140, 160, 180, 200, 220}, 230},
		{along(impl.JsEvenly, 0, 250, slices.Repeat([]sizedItem{ten}, 12)...), []int{10, 30, 50, 70, 90, 110, 130, 150, 170, 190, 210, 230}, 240},
		{along(0, 0, 240, slices.Repeat([]sizedItem{ten.autos(true, true)}, 12)...), []int{5, 25, 45, 65, 85, 105, 125, 145, 165, 185, 205, 225}, 240},
	})
	for _, justify := range append(everyJustify(), 0, 7) {
		for _, inner := range []int{0, 50, 500} {
			for n := range 16 {
				p := along(justify, 1, inner, slices.Repeat([]sizedItem{ten}, n)...)
				if places := checkPlacing(t, p); n > 12 && places != nil || n <= 12 && len(places) != n {
					t.Errorf("PlacesAlong %v = %d", p, places)
				}
				if end := p.end(); (n == 0 || n > 12) && end != 0 {
					t.Errorf("EndsAlong %v = %d", p, end)
				}
			}
			// One more, which is not valid.
			checkPlaceCases(t, []placeCase{
				{along(justify, 0, inner), nil, 0},
				{along(justify, 7, inner), nil, 0},
				{along(justify, 0, inner, slices.Repeat([]sizedItem{ten}, 13)...), nil, 0},
				{along(justify, 0, inner, slices.Repeat([]sizedItem{ten.autos(true, true)}, 13)...), nil, 0},
				{along(justify, 0, inner, slices.Repeat([]sizedItem{ten}, 64)...), nil, 0},
			})
		}
	}
	if got := impl.PlacesAlong([]impl.Item{}, []int{}, 0, 10, impl.JsEnd); len(got) != 0 {
		t.Error("PlacesAlong no items", got)
	}
}

func TestJustifyThatDoesNotExist(t *testing.T) {
	pair := []sizedItem{sized(20), sized(30).margins(1, 2)}
	for _, justify := range append(otherJustify(), impl.JsStart) {
		checkPlaceCases(t, []placeCase{
			{along(justify, 5, 100, pair...), []int{0, 26}, 58},
			{along(justify, 5, 58, pair...), []int{0, 26}, 58},
			{along(justify, 5, 10, pair...), []int{0, 26}, 58},
			{along(justify, 0, 100, sized(20)), []int{0}, 20},
			{along(justify, 0, 100), nil, 0},
		})
		for _, free := range []int{-10, -1, 0, 1, 10} {
			if got := impl.LeadOf(free, 2, justify); got != 0 {
				t.Errorf("LeadOf(%d, 2, %d) = %d", free, justify, got)
			}
		}
	}
}

func TestOtherNumbersOfSizes(t *testing.T) {
	for _, justify := range everyJustify() {
		for n := range 14 {
			for m := range 15 {
				p := placing{justify, 0, 200, times(n, rigid(10, 0, -1)), many(10, m)}
				places := checkPlacing(t, p)
				if n != m && (places != nil || p.end() != 0) {
					t.Errorf("PlacesAlong %v = %d", p, places)
				}
			}
		}
		checkPlaceCases(t, []placeCase{
			{placing{justify, 0, 100, rigids(10, 10), []int{10}}, nil, 0},
			{placing{justify, 0, 100, rigids(10, 10), []int{10, 10, 10}}, nil, 0},
			{placing{justify, 0, 100, rigids(10, 10), []int{10, 10, 0}}, nil, 0},
			{placing{justify, 0, 100, rigids(10), nil}, nil, 0},
			{placing{justify, 0, 100, nil, []int{10}}, nil, 0},
			{placing{justify, 0, 100, rigids(0), nil}, nil, 0},
		})
	}
}

// TestLimitsAlong has a size, a gap and an inner at their limits and beyond.
func TestLimitsAlong(t *testing.T) {
	half, most := impl.MaxLen/2, impl.MaxLen
	checkPlaceCases(t, []placeCase{
		{along(impl.JsEnd, 0, 0, allSized(0, 0)...), []int{0, 0}, 0},
		{along(impl.JsEnd, 0, most, allSized(0, 0)...), []int{most, most}, most},
		{along(impl.JsCenter, 0, most, allSized(0, 0)...), []int{half, half}, half},
		{along(impl.JsBetween, 0, most, allSized(0, 0)...), []int{0, most}, most},
		{along(impl.JsStart, most, 0, allSized(0, 0)...), []int{0, most}, most},
		{along(impl.JsEnd, most, 0, allSized(0, 0)...), []int{-most, 0}, 0},
		{along(impl.JsEnd, most, most, allSized(0, 0)...), []int{0, most}, most},
		{along(impl.JsStart, 0, most, allSized(most)...), []int{0}, most},
		{along(impl.JsEnd, 0, 0, allSized(most)...), []int{-most}, 0},
		{along(impl.JsCenter, 0, 0, allSized(most)...), []int{-half}, half},
		{along(impl.JsStart, most, most, allSized(most, most)...), []int{0, 2 * most}, 3 * most},
	})
	for _, n := range append(edgeNumbers(), lengthNumbers()...) {
		for _, justify := range everyJustify() {
			for _, p := range []placing{
				along(justify, n, 100, allSized(10, 10)...),
				along(justify, n, 100, allSized(10)...),
				along(justify, 0, n, allSized(10, 10)...),
				along(justify, 0, 100, allSized(n, 10, 10)...),
				along(justify, 0, 100, allSized(10, n, 10)...),
				{justify, 0, 100, rigids(10, 10, 10), []int{10, 10, n}},
				{justify, 0, 100, rigids(10), []int{n}},
				{justify, 0, 100, []impl.Item{sized(10).autos(true, true).item}, []int{n}},
			} {
				places := checkPlacing(t, p)
				if valid := n >= 0 && n <= 1048576; valid != (places != nil) || !valid && p.end() != 0 {
					t.Errorf("PlacesAlong %v = %d", p, places)
				}
			}
			// A gap and an inner count even where there is no item.
			checkPlacing(t, along(justify, n, 0))
			checkPlacing(t, along(justify, 0, n))
		}
	}
}

// TestPlacesOfItemsThatAreNotValid has one field at a limit and one beyond it, at each place.
func TestPlacesOfItemsThatAreNotValid(t *testing.T) {
	for _, l := range itemLimits() {
		for _, n := range numbersNear(l) {
			for i := range 3 {
				for _, justify := range everyJustify() {
					items := withItemAt(times(3, rigid(10, 0, -1)), i, withItem(rigid(10, 0, -1), l.name, n))
					p := placing{justify, 3, 100, items, []int{10, 20, 30}}
					places := checkPlacing(t, p)
					if valid := n >= l.least && n <= l.most; valid != (places != nil) || !valid && p.end() != 0 {
						t.Errorf("PlacesAlong %v = %d", p, places)
					}
				}
			}
		}
	}
}

func TestNegativeMarginsAlong(t *testing.T) {
	pair := []sizedItem{sized(20).margins(-5, -3), sized(20).margins(-2, 0)}
	less := sized(5).margins(-10, 0)
	checkPlaceCases(t, []placeCase{
		{along(impl.JsStart, 0, 50, pair...), []int{-5, 10}, 30},
		{along(impl.JsEnd, 0, 50, pair...), []int{15, 30}, 50},
		{along(impl.JsCenter, 0, 50, pair...), []int{5, 20}, 40},
		{along(impl.JsBetween, 0, 50, pair...), []int{-5, 30}, 50},
		{along(impl.JsAround, 0, 50, pair...), []int{0, 25}, 45},
		{along(impl.JsEvenly, 0, 50, pair...), []int{1, 23}, 43},
		{along(impl.JsStart, 4, 50, pair...), []int{-5, 14}, 34},
		{along(impl.JsEnd, 4, 50, pair...), []int{11, 30}, 50},
		// They also make up for a lack of space.
		{along(impl.JsEnd, 0, 30, pair...), []int{-5, 10}, 30},
		{along(impl.JsEnd, 0, 29, pair...), []int{-6, 9}, 29},
		{along(impl.JsCenter, 0, 29, pair...), []int{-6, 9}, 29},
		{along(impl.JsEvenly, 0, 27, pair...), []int{-7, 8}, 28},
		// A line that is shorter than nothing.
		{along(impl.JsStart, 0, 0, less), []int{-10}, -5},
		{along(impl.JsEnd, 0, 0, less), []int{-5}, 0},
		{along(impl.JsCenter, 0, 0, less), []int{-8}, -3},
		{along(impl.JsBetween, 0, 0, less, less), []int{-10, -5}, 0},
		{along(impl.JsStart, 0, 0, less, less), []int{-10, -15}, -10},
		// The last item ends before the one in front of it.
		{along(impl.JsStart, 0, 50, sized(20), sized(5).margins(-20, -5)), []int{0, 0}, 0},
		{along(impl.JsEnd, 0, 50, sized(20), sized(5).margins(-20, -5)), []int{50, 50}, 50},
		{along(impl.JsEnd, 0, 50, sized(20).margins(0, -20), sized(5)), []int{45, 45}, 50},
		{along(0, 0, 50, less.autos(true, false)), []int{45}, 50},
		{along(0, 0, 50, less.autos(false, true)), []int{-10}, 50},
		{along(0, 0, 50, less.autos(true, true)), []int{17}, 50},
	})
}

// TestFreeSpaceBeyondTheLimits has a free space that is clamped, so that a part of it is not distributed.
func TestFreeSpaceBeyondTheLimits(t *testing.T) {
	half, most := impl.MaxLen/2, impl.MaxLen
	none := sized(0).margins(-most, -most)
	one := sized(0).margins(-1, 0)
	full, over := sized(most), sized(most).margins(0, 1)
	checkPlaceCases(t, []placeCase{
		// Exactly MaxLen, and one more.
		{along(impl.JsEnd, 0, most, sized(0)), []int{most}, most},
		{along(impl.JsEnd, 0, most, one), []int{most - 1}, most - 1},
		{along(impl.JsCenter, 0, most, one), []int{half - 1}, half - 1},
		{along(impl.JsBetween, 0, most, one, sized(0)), []int{-1, most - 1}, most - 1},
		{along(impl.JsEvenly, 0, most, one), []int{half - 1}, half - 1},
		{along(0, 0, most, one.autos(true, false)), []int{most - 1}, most - 1},
		{along(0, 0, most, one.autos(true, true)), []int{half - 1}, most - 1},
		// Three times as much.
		{along(impl.JsStart, 0, most, none), []int{-most}, -2 * most},
		{along(impl.JsEnd, 0, most, none), []int{0}, -most},
		{along(impl.JsCenter, 0, most, none), []int{-half}, -half - most},
		{along(impl.JsBetween, 0, most, none), []int{-most}, -2 * most},
		{along(impl.JsAround, 0, most, none), []int{-half}, -half - most},
		{along(impl.JsEvenly, 0, most, none), []int{-half}, -half - most},
		{along(impl.JsBetween, 0, most, none, none), []int{-most, -2 * most}, -3 * most},
		{along(0, 0, most, none.autos(true, true)), []int{-half}, -most},
		// Exactly -MaxLen, and one less.
		{along(impl.JsEnd, 0, 0, full), []int{-most}, 0},
		{along(impl.JsEnd, 0, 0, over), []int{-most}, 1},
		{along(impl.JsCenter, 0, 0, over), []int{-half}, half + 1},
		{along(impl.JsAround, 0, 0, over), []int{-half}, half + 1},
		{along(impl.JsEvenly, 0, 0, over), []int{-half}, half + 1},
		{along(impl.JsBetween, 0, 0, over), []int{0}, most + 1},
		{along(0, 0, 0, over.autos(true, true)), []int{0}, most + 1},
		{along(impl.JsEnd, most, 0, full, full), []int{-most, most}, 2 * most},
		{along(impl.JsCenter, most, 0, full, full), []int{-half, 2*most - half}, 3*most - half},
	})
	for _, justify := range everyJustify() {
		checkPlacing(t, along(justify, most, 0, slices.Repeat([]sizedItem{full.margins(most, most)}, 12)...))
		checkPlacing(t, along(justify, 0, most, slices.Repeat([]sizedItem{none}, 12)...))
		checkPlacing(t, along(justify, 0, most, slices.Repeat([]sizedItem{none.autos(true, true)}, 12)...))
	}
}

func TestAutosIn(t *testing.T) {
	autos := autoItems(fullItem())
	none, before, behind, both := autos[0], autos[1], autos[2], autos[3]
	for _, c := range []struct {
		list []impl.Item
		want int
	}{
		{nil, 0},
		{[]impl.Item{}, 0},
		{[]impl.Item{none}, 0},
		{[]impl.Item{before}, 1},
		{[]impl.Item{behind}, 1},
		{[]impl.Item{both}, 2},
		{[]impl.Item{{}, {AutoBefore: true}, {AutoBehind: true}, {AutoBefore: true, AutoBehind: true}}, 4},
		{[]impl.Item{both, none, before}, 3},
		{[]impl.Item{none, behind, both}, 3},
		{times(12, both), 24},
		// More items, and items that are not valid, are counted too.
		{times(13, both), 26},
		{times(100, before), 100},
		{[]impl.Item{{Base: -1, AutoBefore: true}, {Most: -2, AutoBehind: true}}, 2},
	} {
		if got := impl.AutosIn(c.list); got != c.want || got != wantAutos(c.list) {
			t.Errorf("AutosIn(%+v) = %d, not %d", c.list, got, c.want)
		}
	}
	for _, from := range endItems() {
		for i, x := range autoItems(from) {
			if got := impl.AutosIn([]impl.Item{x, both, x}); got != []int{2, 4, 4, 6}[i] {
				t.Errorf("AutosIn(%+v) = %d", x, got)
			}
		}
	}
}

func TestFreeOf(t *testing.T) {
	plain, wide := rigid(20, 0, -1), withMargins(rigid(20, 0, -1), 3, 4)
	for _, c := range []struct {
		list             []impl.Item
		sizes            []int
		gap, inner, want int
	}{
		{[]impl.Item{plain}, []int{20}, 0, 100, 80},
		{[]impl.Item{plain}, []int{20}, 0, 20, 0},
		{[]impl.Item{plain}, []int{20}, 0, 19, -1},
		{[]impl.Item{plain, plain}, []int{20, 30}, 5, 100, 45},
		{[]impl.Item{wide, plain}, []int{20, 30}, 5, 100, 38},
		{[]impl.Item{wide, wide}, []int{20, 30}, 5, 10, -59},
		{[]impl.Item{withMargins(plain, -30, -5)}, []int{20}, 0, 100, 115},
		{autoItems(wide), []int{1, 2, 3, 4}, 1, 100, 59},
		// There is no gap where there is no item.
		{nil, nil, 7, 100, 100},
		{nil, nil, 7, -5, -5},
		{nil, nil, math.MinInt, math.MaxInt, math.MaxInt},
		// There are fewer sizes than items, or more.
		{[]impl.Item{plain, wide}, []int{20}, 5, 100, 68},
		{[]impl.Item{plain}, []int{20, 30}, 5, 100, 50},
		{nil, []int{20, 30}, 5, 100, 50},
		// Nothing is clamped or has to be valid.
		{[]impl.Item{plain}, []int{-20}, 0, 100, 120},
		{[]impl.Item{plain, plain}, []int{20, 20}, -5, 100, 65},
		{[]impl.Item{plain}, []int{20}, 0, -100, -120},
		{[]impl.Item{plain}, []int{0}, 0, 3 * impl.MaxLen, 3 * impl.MaxLen},
		{[]impl.Item{plain, plain}, []int{0, 0}, 3 * impl.MaxLen, 0, -3 * impl.MaxLen},
		{[]impl.Item{{Base: -1, Most: -9, Before: 2 * impl.MaxLen}}, []int{0}, 0, 0, -2 * impl.MaxLen},
		{times(13, wide), many(1, 13), 2, 200, 72},
		// It wraps around, as OuterOf does.
		{nil, []int{1}, 0, math.MinInt, math.MaxInt},
		{nil, []int{-1}, 0, math.MaxInt, math.MinInt},
		{nil, []int{math.MinInt}, 0, -1, math.MaxInt},
		{nil, []int{math.MinInt}, 0, 0, math.MinInt},
		{nil, []int{math.MaxInt}, 0, math.MinInt, 1},
	} {
		got := impl.FreeOf(c.list, c.sizes, c.gap, c.inner)
		if got != c.want || got != wantFree(c.list, c.sizes, c.gap, c.inner) {
			t.Errorf("FreeOf(%+v, %d, %d, %d) = %d, not %d", c.list, c.sizes, c.gap, c.inner, got, c.want)
		}
	}
}

func TestAlongTheEndsOfInt(t *testing.T) {
	numbers := []int{math.MinInt, math.MinInt + 1, math.MaxInt - 1, math.MaxInt, -1, 0, 20, impl.MaxLen, impl.MaxLen + 1}
	lists := [][]impl.Item{nil, rigids(10), autoItems(rigid(10, 0, -1)), times(13, fullItem())}
	for _, x := range endItems() {
		lists = append(lists, []impl.Item{x}, []impl.Item{fullItem(), x}, autoItems(x))
	}
	for at, list := range lists {
		for i, gap := range numbers {
			for j, inner := range numbers {
				for _, size := range numbers {
					justify := choiceNumbers()[(at+i+j)%len(choiceNumbers())]
					checkPlacing(t, placing{justify, gap, inner, list, many(size, len(list))})
				}
				checkPlacing(t, placing{impl.JsAround, gap, inner, list, many(20, len(list)+1)})
				checkPlacing(t, placing{impl.JsEnd, gap, inner, list, nil})
			}
		}
	}
	for _, justify := range choiceNumbers() {
		for _, inner := range numbers {
			checkPlacing(t, along(justify, 1, inner, allSized(10, 20)...))
			checkPlacing(t, along(justify, inner, 20, allSized(10, 20)...))
		}
	}
}

// TestItemsDoNotOverlap goes through every list of up to three small items, every value of justify and every inner around them.
func TestItemsDoNotOverlap(t *testing.T) {
	kinds := []sizedItem{sized(0), sized(2), sized(1).margins(1, 2), sized(3).margins(-1, -1)}
	for _, s := range slices.Clone(kinds[1:3]) {
		kinds = append(kinds, s.autos(true, false), s.autos(false, true), s.autos(true, true))
	}
	lists := [][]sizedItem{nil}
	for at := 0; at < len(lists); at++ {
		list := lists[at]
		for _, s := range kinds {
			if len(list) < 3 {
				lists = append(lists, append(slices.Clone(list), s))
			}
		}
		for justify := 0; justify <= 7; justify++ {
			for gap := range 2 {
				p := along(justify, gap, 0, list...)
				for p.inner = 0; p.inner <= max(p.outer(), 0)+9; p.inner++ {
					checkPlacing(t, p)
				}
			}
		}
	}
	if len(lists) != 1111 {
		t.Error(len(lists), "lists")
	}
}

// TestEachFreeSpace has lines of every length whose free space goes from less than nothing to several times the number of items.
func TestEachFreeSpace(t *testing.T) {
	for n := 1; n <= 12; n++ {
		for inner := 0; inner <= 5*n+30; inner++ {
			for _, justify := range everyJustify() {
				checkPlacing(t, along(justify, 0, inner, slices.Repeat([]sizedItem{sized(1).margins(1, 0)}, n)...))
			}
			checkPlacing(t, along(impl.JsEnd, 0, inner, slices.Repeat([]sizedItem{sized(2).autos(true, true)}, n)...))
		}
	}
}

// TestPlacesOfMixedItems has small and large numbers, and asks for every kind of line to occur.
func TestPlacesOfMixedItems(t *testing.T) {
	r := rand.New(rand.NewSource(15))
	reached := map[string]int{}
	for i := range 30000 {
		p := anyPlacing(r, []int{3, 10, 100, 5000, impl.MaxLen}[i%5])
		if places := checkPlacing(t, p); len(places) != len(p.items) {
			t.Errorf("PlacesAlong %v = %d", p, places)
		}
		for _, feature := range placeFeatures(p) {
			reached[feature]++
		}
	}
	features := []string{"free beyond MaxLen", "free beyond -MaxLen", "auto margins that are rounded"}
	for n := range mostItems + 1 {
		features = append(features, fmt.Sprintf("%d items", n))
	}
	for sign := -1; sign <= 1; sign++ {
		features = append(features, fmt.Sprintf("auto margins, free of sign %d", sign))
		for justify := range 8 {
			features = append(features, fmt.Sprintf("justify %d, free of sign %d", justify, sign))
		}
	}
	for _, feature := range features {
		if reached[feature] < 100 {
			t.Errorf("%s: only %d times", feature, reached[feature])
		}
	}
}

// TestAlongSharesNoMemory looks at the spare capacity too, and at the addresses of what is returned.
func TestAlongSharesNoMemory(t *testing.T) {
	r := rand.New(rand.NewSource(51))
	placings := []placing{
		along(impl.JsEnd, 0, 100), along(impl.JsEnd, -1, 100, sized(10)), along(impl.JsStart, 0, 0, allSized(0, 0)...),
		{impl.JsEnd, 0, 100, rigids(10, 10), []int{10}}, {impl.JsEnd, 0, 100, times(13, fullItem()), many(1, 13)},
		along(0, 0, 100, sized(10).autos(true, true)), along(0, 0, 5, sized(10).autos(true, true)),
	}
	for range 500 {
		placings = append(placings, anyPlacing(r, 100))
	}
	for _, p := range placings {
		p.items, p.sizes = roomyItems(p.items), append(slices.Clone(p.sizes), 91, 92)[:len(p.sizes)]
		items, sizes := slices.Clone(p.items[:cap(p.items)]), slices.Clone(p.sizes[:cap(p.sizes)])
		first, second := p.places(), p.places()
		if sharesMemory(first, p.items, p.sizes, second) || sharesMemory(second, p.items, p.sizes) {
			t.Errorf("the places of %v are shared memory", p)
		}
		// What a result is used for later does not change another result.
		clear(first[:cap(first)])
		if again := p.places(); !slices.Equal(again, second) {
			t.Errorf("PlacesAlong %v = %d, and then %d", p, second, again)
		}
		p.end()
		impl.FreeOf(p.items, p.sizes, p.gap, p.inner)
		impl.AutosIn(p.items)
		if !slices.Equal(p.items[:cap(p.items)], items) || !slices.Equal(p.sizes[:cap(p.sizes)], sizes) {
			t.Errorf("%+v with the sizes %d became %v", items, sizes, p)
		}
	}
}
