package tests

import (
	"math"
	"reflect"
	"testing"

	"loop.example/g00972/impl"
)

// A limit is the range of a number of a style that is valid.
type limit struct {
	name        string
	least, most int
}

// styleLimits states each range in numbers, so that it shares nothing with the constants of the program.
func styleLimits() []limit {
	return []limit{
		{"Dir", 1, 4}, {"Wrap", 1, 3}, {"Justify", 1, 6}, {"Items", 1, 5}, {"Self", 0, 5}, {"Content", 1, 6},
		{"Order", -1000, 1000}, {"Grow", 0, 1000}, {"Shrink", 0, 1000}, {"Ratio", 0, 6400},
		{"RowGap", 0, 1048576}, {"ColGap", 0, 1048576},
	}
}

// sizeNames holds the values of a style that must not be negative.
func sizeNames() []string {
	return []string{"Basis", "Width", "Height", "MinWidth", "MinHeight", "MaxWidth", "MaxHeight"}
}

// numbersNear holds the numbers around both limits, the numbers of every chapter's limits and the ends of int.
func numbersNear(l limit) []int {
	list := append(lengthNumbers(), edgeNumbers()...)
	for d := -2; d <= 2; d++ {
		list = append(list, l.least+d, l.most+d)
	}
	// These have the lowest bits of a valid number, which must not be enough.
	return append(list, math.MinInt+l.most, 1<<32+l.most, 1<<32+l.least, -1<<32+l.most)
}

// withField returns s with another value in the field of this name.
func withField(s impl.Style, name string, v any) impl.Style {
	reflect.ValueOf(&s).Elem().FieldByName(name).Set(reflect.ValueOf(v))
	return s
}

// fullStyle is valid, and all of its numbers differ from zero and, within a group, from each other.
func fullStyle() impl.Style {
	return impl.Style{
		Dir: impl.DrRowBack, Wrap: impl.WrBack, Justify: impl.JsBetween, Items: impl.AlEnd, Self: impl.AlBase, Content: impl.CtAround,
		Apart: true, Hidden: true, Order: -7, Grow: 8, Shrink: 9,
		Basis: point(10), Width: percent(11), Height: point(12),
		MinWidth: percent(13), MinHeight: point(14), MaxWidth: percent(15), MaxHeight: point(16), Ratio: 17,
		Margin: impl.Sides{Left: point(21), Top: percent(-22), Right: point(-23), Bottom: percent(24), Start: point(25), End: percent(26)},
		Inset:  impl.Sides{Left: percent(31), Top: point(-32), Right: percent(-33), Bottom: point(34), Start: percent(35), End: point(36)},
		Pad:    impl.Edges{Left: 41, Top: 42, Right: 43, Bottom: 44},
		Border: impl.Edges{Left: 51, Top: 52, Right: 53, Bottom: 54},
		RowGap: 61, ColGap: 62,
	}
}

// limitStyle has each number at one end of its range.
func limitStyle(end func(limit) int, v impl.Value, side impl.Value, edge int) impl.Style {
	var s impl.Style
	for _, l := range styleLimits() {
		s = withField(s, l.name, end(l))
	}
	for _, name := range sizeNames() {
		s = withField(s, name, v)
	}
	s.Margin, s.Inset = sidesOf(side), sidesOf(side)
	s.Pad, s.Border = edgesOf(edge), edgesOf(edge)
	return s
}

func leastStyle() impl.Style {
	return limitStyle(func(l limit) int { return l.least }, point(0), point(-impl.MaxLen), 0)
}

func mostStyle() impl.Style {
	return limitStyle(func(l limit) int { return l.most }, point(impl.MaxLen), percent(mostPercent), impl.MaxLen)
}

func validStyles() []impl.Style {
	hidden := impl.StyleNew()
	hidden.Hidden = true
	return []impl.Style{impl.StyleNew(), fullStyle(), leastStyle(), mostStyle(), hidden}
}

// anyStyles adds styles that are not valid.
func anyStyles() []impl.Style {
	list := append(validStyles(), impl.Style{})
	for _, n := range []int{math.MinInt, -1, 7, math.MaxInt} {
		for _, flag := range []bool{false, true} {
			list = append(list, evenStyle(n, flag))
		}
	}
	return list
}

// evenStyle has the same number in every place of every field.
func evenStyle(n int, flag bool) impl.Style {
	var s impl.Style
	eachLeaf(reflect.ValueOf(&s).Elem(), "", func(_ string, leaf reflect.Value) {
		setLeaf(leaf, n, flag)
	})
	return s
}

// eachLeaf visits each number and each flag in a struct, in order, with its path.
func eachLeaf(v reflect.Value, path string, visit func(path string, leaf reflect.Value)) {
	if v.Kind() != reflect.Struct {
		visit(path, v)
		return
	}
	for i := range v.NumField() {
		eachLeaf(v.Field(i), path+"."+v.Type().Field(i).Name, visit)
	}
}

func setLeaf(leaf reflect.Value, n int, flag bool) {
	if leaf.Kind() == reflect.Bool {
		leaf.SetBool(flag)
	} else {
		leaf.SetInt(int64(n))
	}
}

// changedStyles returns, for each number and each flag, by its path, s with nothing else changed.
func changedStyles(s impl.Style) map[string]impl.Style {
	list := map[string]impl.Style{}
	eachLeaf(reflect.ValueOf(&s).Elem(), "", func(path string, leaf reflect.Value) {
		before := reflect.New(leaf.Type()).Elem()
		before.Set(leaf)
		if leaf.Kind() == reflect.Bool {
			leaf.SetBool(!leaf.Bool())
		} else {
			leaf.SetInt(leaf.Int() ^ 1)
		}
		list[path] = s
		leaf.Set(before)
	})
	return list
}

func TestStylesConstants(t *testing.T) {
	// The constants have no type, so they also fit in variables of another one.
	for _, c := range []struct {
		name      string
		got, want []int16
	}{
		{"Dr", []int16{impl.DrRow, impl.DrColumn, impl.DrRowBack, impl.DrColumnBack}, []int16{1, 2, 3, 4}},
		{"Wr", []int16{impl.WrNone, impl.WrOn, impl.WrBack}, []int16{1, 2, 3}},
		{"Js", []int16{impl.JsStart, impl.JsEnd, impl.JsCenter, impl.JsBetween, impl.JsAround, impl.JsEvenly}, []int16{1, 2, 3, 4, 5, 6}},
		{"Al", []int16{impl.AlAuto, impl.AlStretch, impl.AlStart, impl.AlEnd, impl.AlCenter, impl.AlBase}, []int16{0, 1, 2, 3, 4, 5}},
		{"Ct", []int16{impl.CtStretch, impl.CtStart, impl.CtEnd, impl.CtCenter, impl.CtBetween, impl.CtAround}, []int16{1, 2, 3, 4, 5, 6}},
		{"MaxFactor", []int16{impl.MaxFactor}, []int16{1000}},
	} {
		if !reflect.DeepEqual(c.got, c.want) {
			t.Errorf("the constants %s are %d", c.name, c.got)
		}
	}
}

func TestStyleNew(t *testing.T) {
	want := map[string]int64{".Dir": 2, ".Wrap": 1, ".Justify": 1, ".Items": 1, ".Self": 0, ".Content": 2}
	s := impl.StyleNew()
	eachLeaf(reflect.ValueOf(s), "", func(path string, leaf reflect.Value) {
		if leaf.Kind() == reflect.Bool && leaf.Bool() || leaf.Kind() == reflect.Int && leaf.Int() != want[path] {
			t.Errorf("StyleNew has %v at %s", leaf, path)
		}
	})
	if !impl.StyleOk(s) {
		t.Error("StyleNew is not valid")
	}
	// A change of one new style does not show in the next one.
	s.Pad.Left, s.Dir = 5, impl.DrRow
	if next := impl.StyleNew(); next.Pad.Left != 0 || next.Dir != impl.DrColumn {
		t.Errorf("the next StyleNew is %+v", next)
	}
}

func TestStyleOk(t *testing.T) {
	for _, s := range validStyles() {
		if !impl.StyleOk(s) {
			t.Errorf("StyleOk(%+v) = false", s)
		}
	}
	for _, s := range []impl.Style{
		// The zero style has a direction that does not exist.
		{},
		evenStyle(7, true),
		evenStyle(-1, false),
		evenStyle(math.MinInt, true),
		evenStyle(math.MaxInt, false),
	} {
		if impl.StyleOk(s) {
			t.Errorf("StyleOk(%+v) = true", s)
		}
	}
}

func TestStyleOkTakesEachConstant(t *testing.T) {
	for _, c := range []struct {
		name  string
		valid []int
		wrong []int
	}{
		{"Dir", []int{impl.DrRow, impl.DrColumn, impl.DrRowBack, impl.DrColumnBack}, []int{impl.DrRow - 1, impl.DrColumnBack + 1}},
		{"Wrap", []int{impl.WrNone, impl.WrOn, impl.WrBack}, []int{impl.WrNone - 1, impl.WrBack + 1}},
		{"Justify", []int{impl.JsStart, impl.JsEnd, impl.JsCenter, impl.JsBetween, impl.JsAround, impl.JsEvenly}, []int{impl.JsStart - 1, impl.JsEvenly + 1}},
		// The children cannot take their alignment from a parent that has none.
		{"Items", []int{impl.AlStretch, impl.AlStart, impl.AlEnd, impl.AlCenter, impl.AlBase}, []int{impl.AlAuto - 1, impl.AlAuto, impl.AlBase + 1}},
		{"Self", []int{impl.AlAuto, impl.AlStretch, impl.AlStart, impl.AlEnd, impl.AlCenter, impl.AlBase}, []int{impl.AlAuto - 1, impl.AlBase + 1}},
		{"Content", []int{impl.CtStretch, impl.CtStart, impl.CtEnd, impl.CtCenter, impl.CtBetween, impl.CtAround}, []int{impl.CtStretch - 1, impl.CtAround + 1}},
	} {
		for _, n := range c.valid {
			if !impl.StyleOk(withField(impl.StyleNew(), c.name, n)) {
				t.Errorf("a style with %s %d is not valid", c.name, n)
			}
		}
		for _, n := range append(c.wrong, math.MinInt, math.MaxInt) {
			if impl.StyleOk(withField(impl.StyleNew(), c.name, n)) {
				t.Errorf("a style with %s %d is valid", c.name, n)
			}
		}
	}
}

func TestStyleOkChecksEachNumber(t *testing.T) {
	for _, s := range validStyles() {
		for _, l := range styleLimits() {
			for _, n := range numbersNear(l) {
				want := n >= l.least && n <= l.most
				if got := impl.StyleOk(withField(s, l.name, n)); got != want {
					t.Errorf("StyleOk with %s %d = %v", l.name, n, got)
				}
			}
		}
	}
}

func TestStyleOkOfSizes(t *testing.T) {
	for _, name := range sizeNames() {
		for _, c := range []struct {
			v    impl.Value
			want bool
		}{
			{none(0), true},
			{none(1), false},
			{none(-1), false},
			{auto(0), true},
			{auto(1), false},
			{auto(-1), false},
			{point(0), true},
			{point(impl.MaxLen), true},
			{point(impl.MaxLen + 1), false},
			// A valid value may be negative, but not as a size.
			{point(-1), false},
			{point(-impl.MaxLen), false},
			{percent(0), true},
			{percent(mostPercent), true},
			{percent(mostPercent + 1), false},
			{percent(-1), false},
			{percent(-mostPercent), false},
			{impl.Value{Kind: impl.VaNone - 1}, false},
			{impl.Value{Kind: impl.VaAuto + 1}, false},
			{impl.Value{Kind: math.MinInt, N: math.MinInt}, false},
			{impl.Value{Kind: math.MaxInt, N: math.MaxInt}, false},
		} {
			if got := impl.StyleOk(withField(impl.StyleNew(), name, c.v)); got != c.want {
				t.Errorf("StyleOk with %s %d = %v", name, c.v, got)
			}
		}
	}
}

func TestStyleOkChecksEachSize(t *testing.T) {
	for _, s := range validStyles() {
		for _, name := range sizeNames() {
			for _, v := range edgeValues() {
				if got := impl.StyleOk(withField(s, name, v)); got != (wantValid(v) && v.N >= 0) {
					t.Errorf("StyleOk with %s %d = %v", name, v, got)
				}
			}
		}
	}
}

func TestStyleOkChecksEachMarginAndInset(t *testing.T) {
	for _, s := range validStyles() {
		for place := range 6 {
			for _, v := range edgeValues() {
				// Here, a negative number is valid.
				want := wantValid(v)
				if got := impl.StyleOk(withField(s, "Margin", withSide(s.Margin, place, v))); got != want {
					t.Errorf("StyleOk with %d at place %d of the margin = %v", v, place, got)
				}
				if got := impl.StyleOk(withField(s, "Inset", withSide(s.Inset, place, v))); got != want {
					t.Errorf("StyleOk with %d at place %d of the inset = %v", v, place, got)
				}
			}
		}
	}
	for _, v := range []impl.Value{point(-1), point(-impl.MaxLen), percent(-1), percent(-mostPercent)} {
		s := impl.StyleNew()
		s.Margin, s.Inset = sidesOf(v), sidesOf(v)
		if !impl.StyleOk(s) {
			t.Errorf("StyleOk with margins and insets %d = false", v)
		}
	}
}

func TestStyleOkChecksEachPadAndBorder(t *testing.T) {
	for _, s := range validStyles() {
		for place := range 4 {
			for _, n := range append(lengthNumbers(), edgeNumbers()...) {
				want := n >= 0 && n <= 1048576
				if got := impl.StyleOk(withField(s, "Pad", withEdge(s.Pad, place, n))); got != want {
					t.Errorf("StyleOk with %d at place %d of the padding = %v", n, place, got)
				}
				if got := impl.StyleOk(withField(s, "Border", withEdge(s.Border, place, n))); got != want {
					t.Errorf("StyleOk with %d at place %d of the border = %v", n, place, got)
				}
			}
		}
	}
}

func TestStyleOkLeavesTheFieldsUnrelated(t *testing.T) {
	// A minimum above the maximum is valid, and so are all flags.
	s := impl.StyleNew()
	s.MinWidth, s.MaxWidth, s.MinHeight, s.MaxHeight = point(9), point(1), percent(9), percent(1)
	for _, apart := range []bool{false, true} {
		for _, hidden := range []bool{false, true} {
			s.Apart, s.Hidden = apart, hidden
			if !impl.StyleOk(s) {
				t.Errorf("StyleOk(%+v) = false", s)
			}
		}
	}
	// Two numbers that are not valid do not make up for each other.
	for _, a := range styleLimits() {
		for _, b := range styleLimits() {
			for _, n := range []int{a.least - 1, a.most + 1, math.MinInt} {
				for _, m := range []int{b.least - 1, b.most + 1, math.MaxInt} {
					if impl.StyleOk(withField(withField(fullStyle(), a.name, n), b.name, m)) {
						t.Errorf("StyleOk with %s %d and %s %d = true", a.name, n, b.name, m)
					}
				}
			}
		}
	}
}

func TestFrameOf(t *testing.T) {
	for _, c := range []struct {
		pad, border, want impl.Edges
	}{
		{impl.Edges{}, impl.Edges{}, impl.Edges{}},
		{impl.Edges{Left: 5}, impl.Edges{Left: 2}, impl.Edges{Left: 7}},
		{impl.Edges{Left: 1, Top: 2, Right: 3, Bottom: 4}, impl.Edges{Left: 10, Top: 20, Right: 30, Bottom: 40}, impl.Edges{Left: 11, Top: 22, Right: 33, Bottom: 44}},
		// A negative field takes nothing from the other one.
		{edgesOf(-5), edgesOf(10), edgesOf(10)},
		{edgesOf(10), edgesOf(-5), edgesOf(10)},
		{edgesOf(-5), edgesOf(-5), edgesOf(0)},
		{edgesOf(impl.MaxLen - 1), edgesOf(1), edgesOf(impl.MaxLen)},
		{edgesOf(impl.MaxLen), edgesOf(1), edgesOf(impl.MaxLen)},
		{edgesOf(impl.MaxLen + 1), edgesOf(-1), edgesOf(impl.MaxLen)},
		{edgesOf(impl.MaxLen), edgesOf(impl.MaxLen), edgesOf(impl.MaxLen)},
		{edgesOf(math.MaxInt), edgesOf(math.MaxInt), edgesOf(impl.MaxLen)},
		{edgesOf(math.MinInt), edgesOf(math.MaxInt), edgesOf(impl.MaxLen)},
		{edgesOf(math.MinInt), edgesOf(math.MinInt), edgesOf(0)},
	} {
		// No other field counts, and the style need not be valid.
		for _, s := range anyStyles() {
			s.Pad, s.Border = c.pad, c.border
			if got := impl.FrameOf(s); got != c.want {
				t.Errorf("FrameOf with %d and %d = %d, not %d", c.pad, c.border, got, c.want)
			}
		}
	}
}

func TestFrameOfAddsEachField(t *testing.T) {
	for place := range 4 {
		for _, n := range lengthNumbers() {
			for _, m := range lengthNumbers() {
				s := fullStyle()
				s.Pad, s.Border = withEdge(s.Pad, place, n), withEdge(s.Border, place, m)
				want := withEdge(impl.Edges{Left: 92, Top: 94, Right: 96, Bottom: 98}, place, int(wantSum(n, m).Int64()))
				got := impl.FrameOf(s)
				if got != want || !impl.EdgesOk(got) {
					t.Errorf("FrameOf with %d and %d = %d, not %d", s.Pad, s.Border, got, want)
				}
			}
		}
	}
}

func TestGapOf(t *testing.T) {
	for _, c := range []struct{ n, want int }{
		{math.MinInt, 0},
		{-impl.MaxLen, 0},
		{-1, 0},
		{0, 0},
		{9, 9},
		{impl.MaxLen - 1, impl.MaxLen - 1},
		{impl.MaxLen, impl.MaxLen},
		{impl.MaxLen + 1, impl.MaxLen},
		{math.MaxInt, impl.MaxLen},
	} {
		for _, s := range anyStyles() {
			// A gap between columns adds to the width, so it is the wide one.
			s.ColGap, s.RowGap = c.n, 5
			if wide, high := impl.GapOf(s, true), impl.GapOf(s, false); wide != c.want || high != 5 {
				t.Errorf("with a column gap of %d, GapOf is %d and %d", c.n, wide, high)
			}
			s.ColGap, s.RowGap = 6, c.n
			if wide, high := impl.GapOf(s, true), impl.GapOf(s, false); wide != 6 || high != c.want {
				t.Errorf("with a row gap of %d, GapOf is %d and %d", c.n, wide, high)
			}
		}
	}
}

func TestSameStyle(t *testing.T) {
	list := anyStyles()
	for i, a := range list {
		for j, b := range list {
			if got := impl.SameStyle(a, b); got != (i == j) {
				t.Errorf("SameStyle(%+v, %+v) = %v", a, b, got)
			}
		}
	}
	// Two styles of the same fields are the same, even if they were built apart.
	if !impl.SameStyle(fullStyle(), fullStyle()) || !impl.SameStyle(impl.StyleNew(), impl.StyleNew()) {
		t.Error("SameStyle of two equal styles = false")
	}
}

func TestSameStyleComparesEachField(t *testing.T) {
	for _, s := range anyStyles() {
		list := changedStyles(s)
		// 12 numbers, 2 flags, 7 sizes of 2, 2 times 6 sides of 2 and 2 times 4 edges.
		if len(list) != 60 {
			t.Fatalf("a style has %d numbers and flags", len(list))
		}
		for path, changed := range list {
			if impl.SameStyle(s, changed) || impl.SameStyle(changed, s) {
				t.Errorf("SameStyle of two styles that differ in %s alone = true", path)
			}
			if !impl.SameStyle(changed, changed) {
				t.Errorf("SameStyle of a style and itself = false after a change of %s", path)
			}
		}
	}
}

func TestStyleLess(t *testing.T) {
	want := fullStyle()
	want.Apart, want.Hidden, want.Margin, want.Inset = false, false, impl.Sides{}, impl.Sides{}
	got := impl.StyleLess(fullStyle())
	if got != want {
		t.Errorf("StyleLess(%+v) = %+v", fullStyle(), got)
	}
	if again := impl.StyleLess(got); again != got {
		t.Errorf("StyleLess of its own result is %+v", again)
	}
	if s := impl.StyleNew(); impl.StyleLess(s) != s {
		t.Errorf("StyleLess(%+v) = %+v", s, impl.StyleLess(s))
	}
}

func TestStyleLessResetsFourFieldsAlone(t *testing.T) {
	reset := map[string]bool{"Apart": true, "Hidden": true, "Margin": true, "Inset": true}
	for _, s := range anyStyles() {
		before, got := reflect.ValueOf(s), reflect.ValueOf(impl.StyleLess(s))
		for i := range before.NumField() {
			name := before.Type().Field(i).Name
			want := before.Field(i).Interface()
			if reset[name] {
				want = reflect.Zero(before.Field(i).Type()).Interface()
			}
			if got.Field(i).Interface() != want {
				t.Errorf("StyleLess has %v in %s, not %v", got.Field(i), name, want)
			}
		}
		if less := impl.StyleLess(s); impl.StyleLess(less) != less {
			t.Errorf("StyleLess of its own result is %+v", impl.StyleLess(less))
		}
	}
	for _, s := range validStyles() {
		if !impl.StyleOk(impl.StyleLess(s)) {
			t.Errorf("StyleLess(%+v) is not valid", s)
		}
	}
}
