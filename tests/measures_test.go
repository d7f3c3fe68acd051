package tests

import (
	"math"
	"slices"
	"testing"

	"loop.example/g00972/impl"
)

// mostRules is the largest number of rules of a valid table.
const mostRules = 6

func rule(room, wide, high int) impl.Rule { return impl.Rule{Room: room, Wide: wide, High: high} }

func table(rules ...impl.Rule) impl.Table { return impl.Table{Rules: rules} }

// roomTable has a rule for each room, and no two of its rules have an equal size.
func roomTable(rooms ...int) impl.Table {
	var t impl.Table
	for i, room := range rooms {
		t.Rules = append(t.Rules, rule(room, 100+i, 200+i))
	}
	return t
}

// validRules has rules with each field at its limits and within them.
func validRules() []impl.Rule {
	return []impl.Rule{
		rule(0, 0, 0), rule(-1, 0, 0), rule(7, 8, 9),
		rule(impl.MaxLen, 0, 0), rule(0, impl.MaxLen, 0), rule(0, 0, impl.MaxLen),
		rule(-1, impl.MaxLen, impl.MaxLen), rule(impl.MaxLen, impl.MaxLen, impl.MaxLen),
	}
}

// repeated has a valid table of n rules, which are not all equal.
func repeated(n int) impl.Table {
	var t impl.Table
	for i := range n {
		t.Rules = append(t.Rules, validRules()[i%len(validRules())])
	}
	return t
}

// ruleFields states the range of each field of a valid rule in numbers, so that it shares nothing with the program.
func ruleFields() []limit {
	return []limit{{"Room", -1, 1048576}, {"Wide", 0, 1048576}, {"High", 0, 1048576}}
}

// withNumber returns r with another number in the field of this name.
func withNumber(r impl.Rule, name string, n int) impl.Rule {
	return map[string]impl.Rule{
		"Room": rule(n, r.Wide, r.High),
		"Wide": rule(r.Room, n, r.High),
		"High": rule(r.Room, r.Wide, n),
	}[name]
}

// withRule returns a copy of t with another rule at an index.
func withRule(t impl.Table, at int, r impl.Rule) impl.Table {
	rules := slices.Clone(t.Rules)
	rules[at] = r
	return table(rules...)
}

// edgeTables holds tables of several lengths, of which many are not valid.
func edgeTables() []impl.Table {
	list := []impl.Table{
		{}, table([]impl.Rule{}...), roomTable(100, 0), roomTable(0, 100), roomTable(-1), roomTable(0),
		roomTable(impl.MaxLen), roomTable(impl.MaxLen+1, impl.MaxLen, impl.MaxLen-1),
		roomTable(5, 5, 5), roomTable(9, 7, 5, 3, 1, -1), roomTable(-1, 1, 3, 5, 7, 9),
		roomTable(9, 7, 5, 3, 1, 0, -1), roomTable(-2, -3, -1), roomTable(math.MaxInt, math.MinInt),
		roomTable(math.MinInt, math.MaxInt), roomTable(math.MaxInt, math.MaxInt-1), roomTable(math.MinInt),
		table(rule(3, -1, impl.MaxLen+1), rule(2, math.MinInt, math.MaxInt), rule(1, math.MaxInt, math.MinInt)),
	}
	for n := range mostRules + 3 {
		list = append(list, repeated(n))
	}
	return append(list, repeated(500))
}

// edgeRooms holds available widths around every Room of edgeTables and the ends of int.
func edgeRooms() []int {
	list := append(lengthNumbers(), edgeNumbers()...)
	for n := -4; n <= 11; n++ {
		list = append(list, n)
	}
	return append(list, 99, 100, 101)
}

// wantRule follows the sentences of the document and shares nothing with the program.
func wantRule(t impl.Table, room int) (impl.Rule, bool) {
	applies := t.Rules
	if room != -1 {
		applies = slices.DeleteFunc(slices.Clone(t.Rules), func(r impl.Rule) bool { return r.Room > room })
	}
	if len(applies) == 0 {
		return impl.Rule{}, false
	}
	return applies[0], true
}

// wantClamped is n within the limits of a length.
func wantClamped(n int) int { return int(bigClamp(bigOf(n), 0, 1048576).Int64()) }

// checkRule compares RuleFor and WantedOf with the document for one table and one available width.
func checkRule(t *testing.T, x impl.Table, room int) {
	t.Helper()
	want, exists := wantRule(x, room)
	if got, ok := impl.RuleFor(x, room); got != want || ok != exists {
		t.Errorf("RuleFor(%d, %d) = %d and %v, not %d and %v", x, room, got, ok, want, exists)
	}
	wide, high := impl.WantedOf(x, room)
	if wide != wantClamped(want.Wide) || high != wantClamped(want.High) {
		t.Errorf("WantedOf(%d, %d) = %d and %d, where the rule is %d", x, room, wide, high, want)
	}
}

func TestMeasuresLimit(t *testing.T) {
	// The constant has no type, so it also fits in a variable of another one.
	var limit int8 = impl.MaxRules
	if limit != mostRules {
		t.Error("MaxRules", limit)
	}
}

func TestTableOk(t *testing.T) {
	for _, c := range []struct {
		x    impl.Table
		want bool
	}{
		{impl.Table{}, false},
		{table([]impl.Rule{}...), false},
		{table(rule(100, 80, 10), rule(0, 40, 20)), true},
		{table(impl.Rule{}), true},
		{table(rule(-1, 0, 0)), true},
		{table(rule(-2, 0, 0)), false},
		{table(rule(impl.MaxLen, 0, 0)), true},
		{table(rule(impl.MaxLen+1, 0, 0)), false},
		{table(rule(0, -1, 0)), false},
		{table(rule(0, impl.MaxLen, 0)), true},
		{table(rule(0, impl.MaxLen+1, 0)), false},
		{table(rule(0, 0, -1)), false},
		{table(rule(0, 0, impl.MaxLen)), true},
		{table(rule(0, 0, impl.MaxLen+1)), false},
		// The rules are not related: they may be equal and in any order.
		{roomTable(0, 100), true},
		{roomTable(5, 5), true},
		{table(rule(5, 6, 7), rule(5, 6, 7)), true},
		// A size may be greater than the Room.
		{table(rule(0, 50, 50)), true},
		{table(rule(math.MinInt, math.MinInt, math.MinInt)), false},
		{table(rule(math.MaxInt, math.MaxInt, math.MaxInt)), false},
	} {
		if got := impl.TableOk(c.x); got != c.want {
			t.Errorf("TableOk(%d) = %v", c.x, got)
		}
	}
}

func TestTableOkCountsTheRules(t *testing.T) {
	for _, n := range []int{0, 1, 2, mostRules - 1, mostRules, mostRules + 1, mostRules + 2, 12, 256, 257, 1000} {
		if got := impl.TableOk(repeated(n)); got != (n >= 1 && n <= mostRules) {
			t.Errorf("TableOk of %d rules = %v", n, got)
		}
	}
}

func TestTableOkChecksEachFieldOfEachRule(t *testing.T) {
	for n := 1; n <= mostRules; n++ {
		for at := range n {
			for _, from := range validRules() {
				for _, field := range ruleFields() {
					for _, number := range numbersNear(field) {
						x := withRule(repeated(n), at, withNumber(from, field.name, number))
						if got := impl.TableOk(x); got != (number >= field.least && number <= field.most) {
							t.Errorf("TableOk with the %s %d at %d of %d rules = %v", field.name, number, at, n, got)
						}
					}
				}
			}
		}
	}
}

func TestRuleFor(t *testing.T) {
	list := table(rule(100, 80, 10), rule(50, 40, 20), rule(10, 5, 60))
	for _, c := range []struct {
		x    impl.Table
		room int
		want impl.Rule
		ok   bool
	}{
		{list, 1000, rule(100, 80, 10), true},
		// One above a Room, equal to it and one below.
		{list, 101, rule(100, 80, 10), true},
		{list, 100, rule(100, 80, 10), true},
		{list, 99, rule(50, 40, 20), true},
		{list, 51, rule(50, 40, 20), true},
		{list, 50, rule(50, 40, 20), true},
		{list, 49, rule(10, 5, 60), true},
		{list, 11, rule(10, 5, 60), true},
		{list, 10, rule(10, 5, 60), true},
		// Below every Room.
		{list, 9, impl.Rule{}, false},
		{list, 0, impl.Rule{}, false},
		{list, -2, impl.Rule{}, false},
		{list, math.MinInt, impl.Rule{}, false},
		{list, math.MaxInt, rule(100, 80, 10), true},
		{list, impl.Unknown, rule(100, 80, 10), true},
		// The first one that applies, and not the one with the greatest Room.
		{roomTable(10, 50, 100), 1000, rule(10, 100, 200), true},
		{roomTable(10, 50, 100), 100, rule(10, 100, 200), true},
		{roomTable(10, 50, 100), 9, impl.Rule{}, false},
		{roomTable(50, 10, 100), 100, rule(50, 100, 200), true},
		{roomTable(50, 10, 100), 49, rule(10, 101, 201), true},
		{roomTable(100, 10, 50), 99, rule(10, 101, 201), true},
		{roomTable(50, 50, 50), 50, rule(50, 100, 200), true},
		{roomTable(60, 50, 50), 55, rule(50, 101, 201), true},
		{roomTable(-1, 50), 100, rule(-1, 100, 200), true},
		// A room that is Unknown takes the first rule, whatever its Room.
		{roomTable(10, 50, 100), impl.Unknown, rule(10, 100, 200), true},
		{roomTable(100, -1), impl.Unknown, rule(100, 100, 200), true},
		{roomTable(-1, 100), impl.Unknown, rule(-1, 100, 200), true},
		{roomTable(impl.MaxLen), impl.Unknown, rule(impl.MaxLen, 100, 200), true},
		{roomTable(math.MaxInt, math.MinInt), impl.Unknown, rule(math.MaxInt, 100, 200), true},
		// No other negative room is Unknown.
		{roomTable(100, -1), -2, impl.Rule{}, false},
		{roomTable(-1), -2, impl.Rule{}, false},
		{roomTable(-1), math.MinInt, impl.Rule{}, false},
		{roomTable(100, -2), -2, rule(-2, 101, 201), true},
		{roomTable(100, -3), -2, rule(-3, 101, 201), true},
		{roomTable(math.MaxInt, math.MinInt), math.MinInt, rule(math.MinInt, 101, 201), true},
		// 0 is a room like any other.
		{roomTable(100, 0), 0, rule(0, 101, 201), true},
		{roomTable(100, -1), 0, rule(-1, 101, 201), true},
		{roomTable(1), 0, impl.Rule{}, false},
		{roomTable(0), 1, rule(0, 100, 200), true},
		// The limit of a Room is not one of the available width.
		{roomTable(impl.MaxLen), impl.MaxLen - 1, impl.Rule{}, false},
		{roomTable(impl.MaxLen), impl.MaxLen, rule(impl.MaxLen, 100, 200), true},
		{roomTable(impl.MaxLen), impl.MaxLen + 1, rule(impl.MaxLen, 100, 200), true},
		{roomTable(impl.MaxLen + 1), impl.MaxLen, impl.Rule{}, false},
		{roomTable(impl.MaxLen + 1), impl.MaxLen + 1, rule(impl.MaxLen+1, 100, 200), true},
		{roomTable(math.MaxInt), math.MaxInt - 1, impl.Rule{}, false},
		{roomTable(math.MaxInt), math.MaxInt, rule(math.MaxInt, 100, 200), true},
		{roomTable(math.MaxInt), math.MinInt, impl.Rule{}, false},
		// The rule is returned as it is.
		{table(rule(0, math.MinInt, math.MaxInt)), 5, rule(0, math.MinInt, math.MaxInt), true},
		{table(rule(0, math.MaxInt, math.MinInt)), impl.Unknown, rule(0, math.MaxInt, math.MinInt), true},
		{table(impl.Rule{}), 0, impl.Rule{}, true},
		// As many rules as there may be, and one more.
		{roomTable(60, 50, 40, 30, 20, 10), 10, rule(10, 105, 205), true},
		{roomTable(60, 50, 40, 30, 20, 10), 9, impl.Rule{}, false},
		{roomTable(70, 60, 50, 40, 30, 20, 10), 10, rule(10, 106, 206), true},
		{roomTable(70, 60, 50, 40, 30, 20, 10), impl.Unknown, rule(70, 100, 200), true},
	} {
		if got, ok := impl.RuleFor(c.x, c.room); got != c.want || ok != c.ok {
			t.Errorf("RuleFor(%d, %d) = %d and %v, not %d and %v", c.x, c.room, got, ok, c.want, c.ok)
		}
	}
}

func TestATableWithoutRulesHasNoRule(t *testing.T) {
	for _, room := range edgeRooms() {
		for _, x := range []impl.Table{{}, table([]impl.Rule{}...), {Rules: roomTable(-1, 0).Rules[:0]}} {
			if got, ok := impl.RuleFor(x, room); got != (impl.Rule{}) || ok {
				t.Errorf("RuleFor without rules of %d = %d and %v", room, got, ok)
			}
			if wide, high := impl.WantedOf(x, room); wide != 0 || high != 0 {
				t.Errorf("WantedOf without rules of %d = %d and %d", room, wide, high)
			}
		}
	}
}

// TestATableReturnsTheFirstRuleThatApplies is promise 9, for each order of small Rooms and each available width around them.
func TestATableReturnsTheFirstRuleThatApplies(t *testing.T) {
	tables := [][]int{{}}
	for len(tables) > 0 {
		rooms := tables[0]
		tables = tables[1:]
		x := roomTable(rooms...)
		for room := -4; room <= 4; room++ {
			checkRule(t, x, room)
			checkFirst(t, x, room)
		}
		for next := -2; next <= 3 && len(rooms) < 4; next++ {
			tables = append(tables, append(slices.Clone(rooms), next))
		}
	}
}

// checkFirst states promise 9 without a second way to find the rule: it applies, and none before it does.
func checkFirst(t *testing.T, x impl.Table, room int) {
	t.Helper()
	got, ok := impl.RuleFor(x, room)
	at := slices.Index(x.Rules, got)
	if ok != (at >= 0) {
		t.Errorf("RuleFor(%d, %d) = %d and %v", x, room, got, ok)
	}
	for i, r := range x.Rules {
		applies := r.Room <= room || room == impl.Unknown
		if applies && (at < 0 || i < at) || !applies && i == at {
			t.Errorf("RuleFor(%d, %d) = %d, at %d", x, room, got, at)
		}
	}
}

func TestRulesOfEachTableAndRoom(t *testing.T) {
	for _, x := range edgeTables() {
		for _, room := range edgeRooms() {
			checkRule(t, x, room)
		}
	}
	for _, first := range edgeRooms() {
		for _, second := range edgeRooms() {
			for _, room := range edgeRooms() {
				checkRule(t, roomTable(first, second), room)
			}
		}
	}
}

func TestAvailableWidthsAroundTheLeastRoom(t *testing.T) {
	for _, x := range []impl.Table{roomTable(5), roomTable(9, 5, 7), roomTable(5, 5), roomTable(impl.MaxLen, 5), roomTable(11, 10, 9, 8, 7, 6, 5)} {
		for room := -9; room <= 9; room++ {
			if _, ok := impl.RuleFor(x, room); ok != (room >= 5 || room == impl.Unknown) {
				t.Errorf("RuleFor(%d, %d) is %v", x, room, ok)
			}
		}
	}
}

func TestWantedOf(t *testing.T) {
	list := table(rule(100, 80, 10), rule(0, 40, 20))
	for _, c := range []struct {
		x          impl.Table
		room       int
		wide, high int
	}{
		{list, 100, 80, 10},
		{list, 101, 80, 10},
		{list, 99, 40, 20},
		{list, 0, 40, 20},
		{list, impl.Unknown, 80, 10},
		// Without a rule, nothing is wanted.
		{list, -2, 0, 0},
		{list, math.MinInt, 0, 0},
		{list, math.MaxInt, 80, 10},
		{roomTable(100), 99, 0, 0},
		{impl.Table{}, 100, 0, 0},
		{impl.Table{}, impl.Unknown, 0, 0},
		{impl.Table{}, math.MinInt, 0, 0},
		{impl.Table{}, math.MaxInt, 0, 0},
		// What is wanted may be more than there is.
		{table(rule(0, 500, 600)), 10, 500, 600},
		{table(rule(0, 0, 0)), 10, 0, 0},
		{table(rule(0, 0, 7)), 10, 0, 7},
		{table(rule(0, 7, 0)), 10, 7, 0},
		// The sizes of a table that is not valid are clamped.
		{table(rule(0, -1, 7)), 10, 0, 7},
		{table(rule(0, 7, -1)), 10, 7, 0},
		{table(rule(0, -500, -600)), 10, 0, 0},
		{table(rule(0, impl.MaxLen-1, impl.MaxLen)), 10, impl.MaxLen - 1, impl.MaxLen},
		{table(rule(0, impl.MaxLen, impl.MaxLen-1)), 10, impl.MaxLen, impl.MaxLen - 1},
		{table(rule(0, impl.MaxLen+1, 7)), 10, impl.MaxLen, 7},
		{table(rule(0, 7, impl.MaxLen+1)), 10, 7, impl.MaxLen},
		{table(rule(0, math.MinInt, math.MaxInt)), 10, 0, impl.MaxLen},
		{table(rule(0, math.MaxInt, math.MinInt)), 10, impl.MaxLen, 0},
		{table(rule(math.MinInt, math.MaxInt, math.MaxInt)), math.MinInt, impl.MaxLen, impl.MaxLen},
		{table(rule(math.MaxInt, 7, 8)), math.MaxInt, 7, 8},
		{table(rule(math.MaxInt, 7, 8)), math.MinInt, 0, 0},
		// A rule that does not apply has no part in the size, valid or not.
		{table(rule(50, math.MaxInt, math.MaxInt), rule(0, 3, 4), rule(0, 5, 6)), 49, 3, 4},
		{repeated(mostRules + 1), 0, 0, 0},
		{roomTable(7, 6, 5, 4, 3, 2, 1), 1, 106, 206},
	} {
		if wide, high := impl.WantedOf(c.x, c.room); wide != c.wide || high != c.high {
			t.Errorf("WantedOf(%d, %d) = %d and %d, not %d and %d", c.x, c.room, wide, high, c.wide, c.high)
		}
	}
}

func TestWantedOfClampsEachSize(t *testing.T) {
	for _, wide := range edgeNumbers() {
		for _, high := range edgeNumbers() {
			x := table(rule(50, 1, 2), rule(10, wide, high), rule(0, 3, 4))
			if gotWide, gotHigh := impl.WantedOf(x, 20); gotWide != wantClamped(wide) || gotHigh != wantClamped(high) {
				t.Errorf("WantedOf(%d, 20) = %d and %d", x, gotWide, gotHigh)
			}
		}
	}
}

func TestSameTable(t *testing.T) {
	list := table(rule(100, 80, 10), rule(0, 40, 20))
	for _, c := range []struct {
		a, b impl.Table
		want bool
	}{
		{list, list, true},
		{list, table(rule(100, 80, 10), rule(0, 40, 20)), true},
		{impl.Table{}, impl.Table{}, true},
		{impl.Table{}, table([]impl.Rule{}...), true},
		{impl.Table{}, impl.Table{Rules: list.Rules[:0]}, true},
		// One of another length, and the beginning of the other one.
		{list, impl.Table{}, false},
		{list, table(rule(100, 80, 10)), false},
		{list, impl.Table{Rules: list.Rules[:1]}, false},
		{list, impl.Table{Rules: list.Rules[1:]}, false},
		{list, table(rule(100, 80, 10), rule(0, 40, 20), impl.Rule{}), false},
		{impl.Table{}, table(impl.Rule{}), false},
		{table(impl.Rule{}), table(impl.Rule{}, impl.Rule{}), false},
		// Other rules, and the same ones in another order.
		{list, table(rule(0, 40, 20), rule(100, 80, 10)), false},
		{list, table(rule(100, 10, 80), rule(0, 40, 20)), false},
		{list, table(rule(99, 80, 10), rule(0, 40, 20)), false},
		{list, table(rule(100, 80, 10), rule(0, 40, 21)), false},
		// Tables that give the same sizes for every width, but by other rules.
		{roomTable(5, 5), roomTable(5), false},
		{table(rule(5, 1, 2), rule(5, 3, 4)), table(rule(5, 1, 2), rule(6, 3, 4)), false},
		// Tables that are not valid are compared too.
		{repeated(mostRules + 1), repeated(mostRules + 1), true},
		{repeated(mostRules + 1), repeated(mostRules), false},
		{repeated(mostRules + 2), repeated(mostRules + 1), false},
		{table(rule(-5, -6, -7)), table(rule(-5, -6, -7)), true},
		{table(rule(-5, -6, -7)), table(rule(-5, -6, -8)), false},
		{table(rule(0, -1, 0)), table(impl.Rule{}), false},
		{table(rule(0, impl.MaxLen+1, 0)), table(rule(0, impl.MaxLen, 0)), false},
		{table(rule(math.MinInt, math.MinInt, math.MinInt)), table(rule(math.MinInt, math.MinInt, math.MinInt)), true},
		{table(rule(math.MaxInt, math.MaxInt, math.MaxInt)), table(rule(math.MaxInt, math.MaxInt, math.MaxInt)), true},
		{table(rule(math.MinInt, math.MinInt, math.MinInt)), table(rule(math.MaxInt, math.MaxInt, math.MaxInt)), false},
	} {
		if got, back := impl.SameTable(c.a, c.b), impl.SameTable(c.b, c.a); got != c.want || back != c.want {
			t.Errorf("SameTable(%d, %d) = %v, and %v the other way round", c.a, c.b, got, back)
		}
	}
}

func TestSameTableOfEachPair(t *testing.T) {
	// Equal numbers of rules and equal Rooms do not make two tables equal.
	tables := append(edgeTables(), roomTable(100, 0), table(rule(100, 80, 10), rule(0, 40, 20)), table(rule(100, 80, 10), rule(0, 40, 21)))
	for _, a := range tables {
		for _, b := range tables {
			want := len(a.Rules) == len(b.Rules)
			for i := 0; want && i < len(a.Rules); i++ {
				want = a.Rules[i] == b.Rules[i]
			}
			if got := impl.SameTable(a, b); got != want {
				t.Errorf("SameTable(%d, %d) = %v", a, b, got)
			}
		}
	}
}

func TestSameTableComparesEachFieldOfEachRule(t *testing.T) {
	for n := 1; n <= mostRules+1; n++ {
		for at := range n {
			for _, field := range ruleFields() {
				for _, number := range edgeNumbers() {
					a := repeated(n)
					b := withRule(a, at, withNumber(a.Rules[at], field.name, number))
					want := a.Rules[at] == b.Rules[at]
					if got, back := impl.SameTable(a, b), impl.SameTable(b, a); got != want || back != want {
						t.Errorf("SameTable(%d, %d) = %v, and %v the other way round", a, b, got, back)
					}
				}
			}
		}
	}
}

func TestRoomsOf(t *testing.T) {
	for _, c := range []struct {
		x    impl.Table
		want []int
	}{
		{impl.Table{}, nil},
		{table([]impl.Rule{}...), nil},
		{table(rule(100, 80, 10), rule(0, 40, 20)), []int{100, 0}},
		{table(rule(7, 8, 9)), []int{7}},
		// In the order of the rules, and each as often as it occurs.
		{roomTable(1, 3, 2), []int{1, 3, 2}},
		{roomTable(5, 5, 5), []int{5, 5, 5}},
		{roomTable(6, 5, 4, 3, 2, 1), []int{6, 5, 4, 3, 2, 1}},
		// Tables that are not valid have Rooms too, which are not clamped.
		{roomTable(7, 6, 5, 4, 3, 2, 1), []int{7, 6, 5, 4, 3, 2, 1}},
		{roomTable(-1, -2, impl.MaxLen, impl.MaxLen+1), []int{-1, -2, impl.MaxLen, impl.MaxLen + 1}},
		{roomTable(math.MinInt, math.MaxInt), []int{math.MinInt, math.MaxInt}},
		{table(rule(3, math.MinInt, math.MaxInt)), []int{3}},
	} {
		if got := impl.RoomsOf(c.x); !slices.Equal(got, c.want) {
			t.Errorf("RoomsOf(%d) = %d, not %d", c.x, got, c.want)
		}
	}
	for _, rooms := range [][]int{edgeNumbers(), edgeRooms(), many(9, 500)} {
		if got := impl.RoomsOf(roomTable(rooms...)); !slices.Equal(got, rooms) {
			t.Errorf("RoomsOf of the rooms %d = %d", rooms, got)
		}
	}
}

// measure calls every function of the chapter.
func measure(x, y impl.Table, room int) []int {
	impl.TableOk(x)
	impl.RuleFor(x, room)
	impl.WantedOf(x, room)
	impl.SameTable(x, y)
	return impl.RoomsOf(x)
}

// TestMeasuresLeaveTablesUnchanged gives every function the front of a longer slice, so that a write behind it is seen too.
func TestMeasuresLeaveTablesUnchanged(t *testing.T) {
	for _, before := range edgeTables() {
		first := append(slices.Clone(before.Rules), rule(91, 92, 93), rule(94, 95, 96))
		second := append(slices.Clone(before.Rules), rule(81, 82, 83))
		a, b := slices.Clone(first), slices.Clone(second)
		n := len(before.Rules)
		for _, room := range []int{math.MinInt, impl.Unknown, 0, 5, impl.MaxLen, math.MaxInt} {
			results := [][]int{
				measure(impl.Table{Rules: a[:n]}, impl.Table{Rules: b[:n]}, room),
				measure(impl.Table{Rules: b[:n]}, impl.Table{Rules: a[:n+1]}, room),
				measure(impl.Table{Rules: a[:n]}, impl.Table{Rules: a[:n]}, room),
			}
			if !slices.Equal(a, first) || !slices.Equal(b, second) {
				t.Errorf("the tables became %d and %d", a, b)
			}
			overwrite(results)
			if !slices.Equal(a, first) || !slices.Equal(b, second) {
				t.Errorf("a result shares memory with a table: %d and %d", a, b)
			}
		}
	}
}

func TestRoomsOfEqualCallsShareNoMemory(t *testing.T) {
	for _, x := range edgeTables() {
		first, second := impl.RoomsOf(x), impl.RoomsOf(x)
		want := slices.Clone(first)
		overwrite([][]int{first})
		if again := impl.RoomsOf(x); !slices.Equal(second, want) || !slices.Equal(again, want) {
			t.Errorf("RoomsOf(%d) = %d, and %d in a later call", x, second, again)
		}
	}
}

func TestMeasuresOfTheEndsOfInt(t *testing.T) {
	ends := []int{math.MinInt, math.MaxInt}
	for _, room := range ends {
		for _, wide := range ends {
			for _, high := range ends {
				x := table(rule(room, wide, high))
				if impl.TableOk(x) || !impl.SameTable(x, x) || impl.RoomsOf(x)[0] != room {
					t.Errorf("TableOk(%d) = %v, and its rooms are %d", x, impl.TableOk(x), impl.RoomsOf(x))
				}
				for _, available := range append(ends, impl.Unknown) {
					checkRule(t, x, available)
					checkFirst(t, x, available)
				}
			}
		}
	}
}
