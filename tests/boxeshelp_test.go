package tests

import (
	"fmt"
	"reflect"
	"slices"
	"testing"

	"loop.example/g00972/impl"
)

// A boxing is what the functions of the chapter have as their arguments.
type boxing struct {
	tree impl.Tree
	n    int
	w, h impl.Space
	rtl  bool
}

// boxed lays out node 1 from left to right.
func boxed(tree impl.Tree, w, h impl.Space) boxing { return boxing{tree: tree, n: 1, w: w, h: h} }

func (b boxing) String() string {
	text := fmt.Sprintf("node %d in %s by %s, rtl %t", b.n, wantSpaceText(b.w), wantSpaceText(b.h), b.rtl)
	for i, n := range b.tree.Nodes {
		text += fmt.Sprintf("\n  %d: kids %d, measured %t %d, %s", i+1, n.Kids, n.Measured, n.Table.Rules, styleText(n.Style))
	}
	return text
}

// styleText names the fields that differ from those of a new style.
func styleText(s impl.Style) string {
	var text []string
	from, to := reflect.ValueOf(impl.StyleNew()), reflect.ValueOf(s)
	for i := range to.NumField() {
		if !to.Field(i).Equal(from.Field(i)) {
			text = append(text, fmt.Sprintf("%s %v", to.Type().Field(i).Name, to.Field(i)))
		}
	}
	return fmt.Sprint(text)
}

func (b boxing) at(n int) boxing {
	b.n = n
	return b
}

func (b boxing) in(w, h impl.Space) boxing {
	b.w, b.h = w, h
	return b
}

func (b boxing) backwards() boxing {
	b.rtl = !b.rtl
	return b
}

// with changes the style of a node.
func (b boxing) with(n int, fields ...any) boxing {
	b.tree = withStyle(b.tree, n, changedStyle(b.tree.Nodes[n-1].Style, fields...))
	return b
}

func (b boxing) measured(n int, rules ...impl.Rule) boxing {
	b.tree = withTable(b.tree, n, true, table(rules...))
	return b
}

func (b boxing) mainSpace() impl.Space  { return impl.MainSpace(b.tree, b.n, b.w, b.h) }
func (b boxing) crossSpace() impl.Space { return impl.CrossSpace(b.tree, b.n, b.w, b.h) }
func (b boxing) kidCross(kid int) impl.Space {
	return impl.KidCross(b.tree, b.n, b.w, b.h, b.rtl, kid)
}
func (b boxing) kidBase(kid int) int    { return impl.KidBase(b.tree, b.n, b.w, b.h, b.rtl, kid) }
func (b boxing) kidItems() []impl.Item  { return impl.KidItems(b.tree, b.n, b.w, b.h, b.rtl) }
func (b boxing) kidSizes() []int        { return impl.KidSizes(b.tree, b.n, b.w, b.h, b.rtl) }
func (b boxing) kidSides() []impl.Side  { return impl.KidSides(b.tree, b.n, b.w, b.h, b.rtl) }
func (b boxing) sizedBox() impl.Box     { return impl.SizedBox(b.tree, b.n, b.w, b.h, b.rtl) }
func (b boxing) frames() []impl.Frame   { return b.sizedBox().Frames }
func (b boxing) frame(i int) impl.Frame { return b.frames()[i] }

// changedStyle takes the names of fields, each followed by its value.
func changedStyle(s impl.Style, fields ...any) impl.Style {
	for i := 0; i < len(fields); i += 2 {
		s = withField(s, fields[i].(string), fields[i+1])
	}
	return s
}

// styleWith has what a new style has in all other fields.
func styleWith(fields ...any) impl.Style { return changedStyle(impl.StyleNew(), fields...) }

// rowWith and columnWith have children that are at the beginning across unless the fields say otherwise.
func rowWith(fields ...any) impl.Style {
	return changedStyle(styleWith("Dir", impl.DrRow, "Items", impl.AlStart), fields...)
}

func columnWith(fields ...any) impl.Style {
	return changedStyle(styleWith("Dir", impl.DrColumn, "Items", impl.AlStart), fields...)
}

// kidOf has a width and a height in points, and kidWith has neither.
func kidOf(wide, high int, fields ...any) impl.Style {
	return changedStyle(styleWith("Width", point(wide), "Height", point(high)), fields...)
}

func kidWith(fields ...any) impl.Style { return styleWith(fields...) }

// hosted is node 1 with this style and its children, which have the others.
func hosted(s impl.Style, kids ...impl.Style) impl.Tree { return withStyle(family(kids...), 1, s) }

// nested is a tree of these parents in which the nodes have these styles.
func nested(ups []int, styles ...impl.Style) impl.Tree {
	t := treeOf(ups...)
	for i, s := range styles {
		t.Nodes[i].Style = s
	}
	return t
}

// margin has the same value at all four sides.
func margin(v impl.Value) impl.Sides { return impl.Sides{Left: v, Top: v, Right: v, Bottom: v} }

func frameOf(n, x, y, wide, high int) impl.Frame {
	return impl.Frame{Node: n, X: x, Y: y, Wide: wide, High: high}
}

func boxOf(wide, high, base int, frames ...impl.Frame) impl.Box {
	return impl.Box{Wide: wide, High: high, Base: base, Frames: frames}
}

// sameBox takes a nil slice and an empty slice as the same value.
func sameBox(a, b impl.Box) bool {
	return a.Wide == b.Wide && a.High == b.High && a.Base == b.Base && slices.Equal(a.Frames, b.Frames)
}

// The functions named want.. follow the sentences of the document and share nothing with the program.
func wantBoxing(b boxing) bool {
	return wantTree(b.tree) && isNode(b.tree, b.n) && wantSpace(b.w) && wantSpace(b.h)
}

func spanOf(s impl.Style, wide bool) span {
	if wide {
		return span{s.Width, s.MinWidth, s.MaxWidth, [2]int{s.Pad.Left, s.Pad.Right}, [2]int{s.Border.Left, s.Border.Right}}
	}
	return span{s.Height, s.MinHeight, s.MaxHeight, [2]int{s.Pad.Top, s.Pad.Bottom}, [2]int{s.Border.Top, s.Border.Bottom}}
}

func wantKnownIn(s impl.Space) int {
	if s.Mode == 3 {
		return s.N
	}
	return -1
}

func wantAlign(s, kid impl.Style) int {
	align := s.Items
	if kid.Self != 0 {
		align = kid.Self
	}
	if align == 5 && !wantRow(s.Dir) {
		align = 2
	}
	return align
}

func wantGap(s impl.Style, wide bool) int {
	return map[bool]int{true: s.ColGap, false: s.RowGap}[wide]
}

// A laying is a valid boxing with the terms that the document states ahead of the functions.
type laying struct {
	boxing
	// flows holds the children in the flow of each node, as the tree stays the same.
	flows       [][]int
	reached     map[string]bool
	style       impl.Style
	kids        []int
	row         bool
	innerWide   impl.Space
	main, cross impl.Space
	gapAlong    int
	gapAcross   int
	items       []impl.Item
	sizes       []int
	sides       []impl.Side
}

func layingOf(b boxing) *laying {
	l := &laying{boxing: b, reached: map[string]bool{}}
	for n := range b.tree.Nodes {
		l.flows = append(l.flows, wantFlow(b.tree, n+1))
	}
	return l.of(b)
}

// of is the laying of another node of the same tree.
func (l *laying) of(b boxing) *laying {
	s := b.tree.Nodes[b.n-1].Style
	other := &laying{boxing: b, flows: l.flows, reached: l.reached, style: s, kids: l.flows[b.n-1], row: wantRow(s.Dir)}
	other.innerWide = wantInner(b.w, wantFrame(spanOf(s, true)))
	other.main, other.cross = other.innerWide, wantInner(b.h, wantFrame(spanOf(s, false)))
	if !other.row {
		other.main, other.cross = other.cross, other.main
	}
	other.gapAlong, other.gapAcross = wantGap(s, other.row), wantGap(s, !other.row)
	return other
}

func (l *laying) kidStyle(kid int) impl.Style { return l.tree.Nodes[kid-1].Style }

// kidMargins are those of a child at the sides of an axis.
func (l *laying) kidMargins(kid int, at axis) impl.Side {
	s, base := l.kidStyle(kid).Margin, wantKnownIn(l.innerWide)
	begin, end := wantSide(s, at.begin, l.rtl), wantSide(s, at.end, l.rtl)
	return impl.Side{
		Before: int(wantMargin(begin, base).Int64()), Behind: int(wantMargin(end, base).Int64()),
		AutoBefore: begin.Kind == 3, AutoBehind: end.Kind == 3,
	}
}

func (l *laying) along(kid int) impl.Side {
	return l.kidMargins(kid, wantMain(l.style.Dir, l.rtl))
}

func (l *laying) across(kid int) impl.Side {
	return l.kidMargins(kid, wantCross(l.style.Dir, l.style.Wrap, l.rtl))
}

func (l *laying) wantKidCross(kid int) impl.Space {
	s, d, base := l.kidStyle(kid), spanOf(l.kidStyle(kid), !l.row), wantKnownIn(l.cross)
	m := l.across(kid)
	if fixed := wantSize(d.fixed, base); fixed != -1 {
		l.reached["a fixed size across"] = true
		return exactly(wantBounded(d, base, fixed))
	}
	if wantAlign(l.style, s) == 1 && !m.AutoBefore && !m.AutoBehind && l.style.Wrap == 1 && l.cross.Mode == 3 {
		l.reached["a stretched size across"] = true
		return exactly(wantBounded(d, base, l.cross.N-m.Before-m.Behind))
	}
	l.reached["an open size across"] = true
	return wantLoosened(wantInner(l.cross, m.Before+m.Behind))
}

// kidBox lays out a child in spaces along and across, and returns its sizes along and across.
func (l *laying) kidBox(kid int, along, across impl.Space) (int, int, impl.Box) {
	b := l.boxing.at(kid).in(along, across)
	if !l.row {
		b = b.in(across, along)
	}
	box := l.of(b).wantBox()
	if !l.row {
		return box.High, box.Wide, box
	}
	return box.Wide, box.High, box
}

func (l *laying) wantKidBase(kid int) int {
	s, base, across := l.kidStyle(kid), wantKnownIn(l.main), l.wantKidCross(kid)
	ratio := -1
	if across.Mode == 3 {
		ratio = wantRatio(s.Ratio, l.row, across.N)
	}
	for i, size := range []int{wantSize(s.Basis, base), wantSize(spanOf(s, l.row).fixed, base), ratio} {
		if size != -1 {
			l.reached["a base by "+[]string{"Basis", "a fixed size", "the ratio"}[i]] = true
			return size
		}
	}
	space := free(0)
	if l.row {
		m := l.along(kid)
		space = wantLoosened(wantInner(l.main, m.Before+m.Behind))
	}
	size, _, _ := l.kidBox(kid, space, across)
	l.reached["a base by content"] = true
	return size
}

func (l *laying) wantKidItems() []impl.Item {
	if l.items != nil {
		return l.items
	}
	base := wantKnownIn(l.main)
	for _, kid := range l.kids {
		s, m := l.kidStyle(kid), l.along(kid)
		d := spanOf(s, l.row)
		x := item(l.wantKidBase(kid), wantLeast(d, base), wantSize(d.most, base), s.Grow, s.Shrink)
		x.Before, x.Behind, x.AutoBefore, x.AutoBehind = m.Before, m.Behind, m.AutoBefore, m.AutoBehind
		l.items = append(l.items, x)
	}
	return l.items
}

func (l *laying) wantBreaking() breaking {
	return breaking{l.wantKidItems(), l.gapAlong, wantRoom(l.main), l.style.Wrap != 1}
}

func (l *laying) wantInnerAlong() int { return wantTaken(l.main, wantLongest(l.wantBreaking())) }

func (l *laying) wantKidSizes() []int {
	if l.sizes == nil {
		l.sizes = wantLineSizes(l.wantBreaking(), l.wantInnerAlong())
	}
	return l.sizes
}

// ratioAcross is the size across of child i that its ratio gives it, once its size along is determined.
func (l *laying) ratioAcross(i int) int {
	return wantRatio(l.kidStyle(l.kids[i]).Ratio, !l.row, l.wantKidSizes()[i])
}

func (l *laying) fixedAcross(i int) int {
	return wantSize(spanOf(l.kidStyle(l.kids[i]), !l.row).fixed, wantKnownIn(l.cross))
}

func (l *laying) boundedAcross(i, size int) int {
	return wantBounded(spanOf(l.kidStyle(l.kids[i]), !l.row), wantKnownIn(l.cross), size)
}

func (l *laying) wantKidSides() []impl.Side {
	if l.sides != nil {
		return l.sides
	}
	for i, kid := range l.kids {
		space := l.wantKidCross(kid)
		if ratio := l.ratioAcross(i); space.Mode != 3 && l.fixedAcross(i) == -1 && ratio != -1 {
			l.reached["a size across by the ratio"] = true
			space = exactly(l.boundedAcross(i, ratio))
		}
		_, size, box := l.kidBox(kid, exactly(l.wantKidSizes()[i]), space)
		x := l.across(kid)
		x.Size, x.Align = l.boundedAcross(i, size), wantAlign(l.style, l.kidStyle(kid))
		x.Base = min(box.Base, x.Size)
		if box.Base > x.Size {
			l.reached["a baseline beyond the size"] = true
		}
		l.sides = append(l.sides, x)
	}
	return l.sides
}

// wantBox follows the document through its seven steps.
func (l *laying) wantBox() impl.Box {
	edgesWide, edgesHigh := wantFrame(spanOf(l.style, true)), wantFrame(spanOf(l.style, false))
	node := l.tree.Nodes[l.n-1]
	if node.Measured || len(l.kids) == 0 {
		size := impl.Rule{}
		if node.Measured {
			size, _ = wantRule(node.Table, wantRoom(l.innerWide))
		}
		high := wantTaken(l.h, size.High+edgesHigh)
		return impl.Box{Wide: wantTaken(l.w, size.Wide+edgesWide), High: high, Base: high}
	}
	lines, along := wantLines(l.wantBreaking()), l.wantInnerAlong()
	crosses := l.wantCrosses(lines)
	across := wantTaken(l.cross, wantCrossTotal(crosses, l.gapAcross))
	content := l.style.Content
	if l.style.Wrap == 1 {
		content = 2
	}
	begins := wantLinePlaces(stacked(content, l.gapAcross, across, crosses...))
	sides := slices.Clone(l.wantKidSides())
	for i := range sides {
		sides[i] = l.wantFilled(i, sides[i], crosses[wantLineOf(lines, i)])
	}
	frames := l.wantFrames(lines, sides, crosses, begins, along, across)
	wide, high := along, across
	if !l.row {
		wide, high = across, along
	}
	return impl.Box{
		Wide: wantTaken(l.w, wide+edgesWide), High: wantTaken(l.h, high+edgesHigh),
		Base: wantClamped(frames[0].Y + sides[0].Base), Frames: frames,
	}
}

func sidesAt(sides []impl.Side, line []int) []impl.Side {
	var list []impl.Side
	for _, i := range line {
		list = append(list, sides[i])
	}
	return list
}

func (l *laying) wantCrosses(lines [][]int) []int {
	var crosses []int
	for _, line := range lines {
		crosses = append(crosses, wantCrossOf(sidesAt(l.wantKidSides(), line)))
	}
	if l.cross.Mode != 3 {
		return crosses
	}
	if l.style.Wrap == 1 {
		return []int{l.cross.N}
	}
	return wantStretched(stacked(l.style.Content, l.gapAcross, l.cross.N, crosses...))
}

func (l *laying) wantFilled(i int, x impl.Side, cross int) impl.Side {
	if !wantFills(x) || l.fixedAcross(i) != -1 {
		return x
	}
	if l.ratioAcross(i) != -1 {
		l.reached["a ratio instead of filling"] = true
		return x
	}
	l.reached["a child that fills its line"] = true
	x.Size = l.boundedAcross(i, cross-x.Before-x.Behind)
	x.Base = min(x.Base, x.Size)
	return x
}

func (l *laying) wantFrames(lines [][]int, sides []impl.Side, crosses, begins []int, along, across int) []impl.Frame {
	frames := make([]impl.Frame, len(l.kids))
	sizes := l.wantKidSizes()
	mirrored := func(inner, at, size int, back bool) int {
		if back {
			return inner - at - size
		}
		return at
	}
	for k, line := range lines {
		p := placing{justify: l.style.Justify, gap: l.gapAlong, inner: along}
		for _, i := range line {
			p.items, p.sizes = append(p.items, l.wantKidItems()[i]), append(p.sizes, sizes[i])
		}
		places, _ := wantPlacing(p)
		base := wantBaseOf(sidesAt(sides, line))
		for at, i := range line {
			x := mirrored(along, places[at], sizes[i], wantMain(l.style.Dir, l.rtl).back)
			y := begins[k] + wantPlaceAcross(sides[i], crosses[k], base)
			y = mirrored(across, y, sides[i].Size, wantCross(l.style.Dir, l.style.Wrap, l.rtl).back)
			frames[i] = frameOf(l.kids[i], x, y, sizes[i], sides[i].Size)
			if !l.row {
				frames[i] = frameOf(l.kids[i], y, x, sides[i].Size, sizes[i])
			}
			frames[i].X += wantClamped(l.style.Pad.Left + l.style.Border.Left)
			frames[i].Y += wantClamped(l.style.Pad.Top + l.style.Border.Top)
		}
	}
	return frames
}

// checkNoBox asks for the fixed results of arguments that are not valid.
func checkNoBox(t *testing.T, b boxing, kids ...int) {
	t.Helper()
	items, sizes, sides := b.kidItems(), b.kidSizes(), b.kidSides()
	if len(items)+len(sizes)+len(sides) > 0 || b.mainSpace() != (impl.Space{}) || b.crossSpace() != (impl.Space{}) {
		t.Errorf("items %+v, sizes %d, sides %+v of %v", items, sizes, sides, b)
	}
	if box := b.sizedBox(); !sameBox(box, impl.Box{}) {
		t.Errorf("SizedBox = %+v of %v", box, b)
	}
	for _, kid := range kids {
		checkNoKid(t, b, kid)
	}
}

func checkNoKid(t *testing.T, b boxing, kid int) {
	t.Helper()
	if space, base := b.kidCross(kid), b.kidBase(kid); space != (impl.Space{}) || base != 0 {
		t.Errorf("KidCross = %v and KidBase = %d of kid %d of %v", space, base, kid, b)
	}
}

// checkBox compares every function with the document and the box with promise 18, and returns what was to be seen on the way.
func checkBox(t *testing.T, b boxing) *laying {
	t.Helper()
	if !wantBoxing(b) {
		checkNoBox(t, b, nodeNumbers()...)
		return nil
	}
	l := layingOf(b)
	if main, cross := b.mainSpace(), b.crossSpace(); main != l.main || cross != l.cross {
		t.Errorf("the spaces %v and %v, not %v and %v, of %v", main, cross, l.main, l.cross, b)
	}
	for _, kid := range l.kids {
		if got, want := b.kidCross(kid), l.wantKidCross(kid); got != want {
			t.Errorf("KidCross of %d = %v, not %v, of %v", kid, got, want, b)
		}
		if got, want := b.kidBase(kid), l.wantKidBase(kid); got != want {
			t.Errorf("KidBase of %d = %d, not %d, of %v", kid, got, want, b)
		}
	}
	if got, want := b.kidItems(), l.wantKidItems(); !slices.Equal(got, want) {
		t.Errorf("KidItems = %+v, not %+v, of %v", got, want, b)
	}
	if got, want := b.kidSizes(), l.wantKidSizes(); !slices.Equal(got, want) {
		t.Errorf("KidSizes = %d, not %d, of %v", got, want, b)
	}
	if got, want := b.kidSides(), l.wantKidSides(); !slices.Equal(got, want) {
		t.Errorf("KidSides = %+v, not %+v, of %v", got, want, b)
	}
	box, want := b.sizedBox(), l.wantBox()
	if !sameBox(box, want) {
		t.Errorf("SizedBox = %+v, not %+v, of %v", box, want, b)
	}
	checkOccupied(t, b, box)
	return l
}

// checkOccupied is promise 18, and what holds for every box: it has a frame for each child in the flow, in order.
func checkOccupied(t *testing.T, b boxing, box impl.Box) {
	t.Helper()
	for _, c := range []struct {
		space impl.Space
		size  int
	}{{b.w, box.Wide}, {b.h, box.High}} {
		if c.size < 0 || c.size > impl.MaxLen || c.space.Mode == impl.SpExact && c.size != c.space.N || c.space.Mode == impl.SpMost && c.size > c.space.N {
			t.Errorf("the size %d in %v of %v", c.size, c.space, b)
		}
	}
	var numbers []int
	for _, f := range box.Frames {
		numbers = append(numbers, f.Node)
		if f.Wide < 0 || f.Wide > impl.MaxLen || f.High < 0 || f.High > impl.MaxLen {
			t.Errorf("the frame %+v of %v", f, b)
		}
	}
	if !slices.Equal(numbers, impl.FlowKids(b.tree, b.n)) {
		t.Errorf("the frames %+v of %v", box.Frames, b)
	}
	if box.Base < 0 || box.Base > impl.MaxLen {
		t.Errorf("the baseline %d of %v", box.Base, b)
	}
}

// A boxCase is a boxing with its box, which is written down and not computed.
type boxCase struct {
	boxing
	want impl.Box
}

func checkBoxCases(t *testing.T, cases []boxCase) {
	t.Helper()
	for _, c := range cases {
		if got := c.sizedBox(); !sameBox(got, c.want) {
			t.Errorf("SizedBox = %+v, not %+v, of %v", got, c.want, c.boxing)
		}
		checkBox(t, c.boxing)
	}
}

// A frameCase is a boxing with its frames alone, where the size of the box is that of its exact spaces.
type frameCase struct {
	boxing
	want []impl.Frame
}

func checkFrameCases(t *testing.T, cases []frameCase) {
	t.Helper()
	for _, c := range cases {
		if got := c.frames(); !slices.Equal(got, c.want) {
			t.Errorf("the frames %+v, not %+v, of %v", got, c.want, c.boxing)
		}
		checkBox(t, c.boxing)
	}
}
