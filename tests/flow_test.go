package tests

import (
	"fmt"
	"math"
	"slices"
	"testing"

	"loop.example/g00972/impl"
)

// placed is the style of a child with these properties.
func placed(order int, apart, hidden bool) impl.Style {
	s := impl.StyleNew()
	s.Order, s.Apart, s.Hidden = order, apart, hidden
	return s
}

func inFlow(order int) impl.Style     { return placed(order, false, false) }
func setApart(order int) impl.Style   { return placed(order, true, false) }
func hidden(order int) impl.Style     { return placed(order, false, true) }
func setNowhere(order int) impl.Style { return placed(order, true, true) }

// family is a tree of node 1 and its children, which have these styles in order of their numbers and of the Kids.
func family(styles ...impl.Style) impl.Tree {
	t := treeOf(append([]int{0}, many(1, len(styles))...)...)
	for i, s := range styles {
		t.Nodes[i+1].Style = s
	}
	return t
}

// ordered is a family in the flow.
func ordered(orders ...int) impl.Tree {
	t := family(make([]impl.Style, len(orders))...)
	for i, order := range orders {
		t.Nodes[i+1].Style = inFlow(order)
	}
	return t
}

// withStyles returns a copy of t in which the nodes of these numbers have the style.
func withStyles(t impl.Tree, s impl.Style, numbers ...int) impl.Tree {
	for _, n := range numbers {
		t = withStyle(t, n, s)
	}
	return t
}

// arrangements holds every order of the elements of a list.
func arrangements(list []int) [][]int {
	if len(list) == 0 {
		return [][]int{{}}
	}
	var all [][]int
	for i, first := range list {
		for _, others := range arrangements(slices.Delete(slices.Clone(list), i, i+1)) {
			all = append(all, append([]int{first}, others...))
		}
	}
	return all
}

// The functions named want.. follow the sentences of the document and share nothing with the program.
func wantKids(t impl.Tree, n int, holds func(impl.Style) bool) []int {
	var list []int
	if !wantTree(t) || !isNode(t, n) {
		return nil
	}
	for _, kid := range t.Nodes[n-1].Kids {
		if holds(t.Nodes[kid-1].Style) {
			list = append(list, kid)
		}
	}
	return list
}

// wantFlow takes the first of the children with the least Order again and again.
func wantFlow(t impl.Tree, n int) []int {
	rest := wantKids(t, n, func(s impl.Style) bool { return !s.Hidden && !s.Apart })
	var list []int
	for len(rest) > 0 {
		least := 0
		for i, kid := range rest {
			if t.Nodes[kid-1].Style.Order < t.Nodes[rest[least]-1].Style.Order {
				least = i
			}
		}
		list = append(list, rest[least])
		rest = slices.Delete(rest, least, least+1)
	}
	return list
}

func wantApart(t impl.Tree, n int) []int {
	return wantKids(t, n, func(s impl.Style) bool { return s.Apart && !s.Hidden })
}

func wantHidden(t impl.Tree, n int) []int {
	return wantKids(t, n, func(s impl.Style) bool { return s.Hidden })
}

func wantGone(t impl.Tree, n int) bool {
	if !wantTree(t) || !isNode(t, n) {
		return true
	}
	way, _ := wantWay(t, n)
	return slices.ContainsFunc(append(way, n), func(m int) bool { return t.Nodes[m-1].Style.Hidden })
}

func wantRoot(t impl.Tree, n int) int {
	if !wantTree(t) || !isNode(t, n) {
		return 0
	}
	way, _ := wantWay(t, n)
	return append([]int{n}, way...)[len(way)]
}

func wantAll(t impl.Tree, n int) []int {
	if !wantTree(t) || !isNode(t, n) {
		return nil
	}
	list := []int{n}
	for _, kid := range t.Nodes[n-1].Kids {
		list = append(list, wantAll(t, kid)...)
	}
	return list
}

func checkNumbers(t *testing.T, name string, x impl.Tree, n int, got, want []int) {
	t.Helper()
	if !slices.Equal(got, want) {
		t.Errorf("%s(%d) of %s = %d, not %d", name, n, flowText(x), got, want)
	}
}

// flowText names the children that are set apart or hidden, which treeText does not.
func flowText(t impl.Tree) string {
	var apart, gone []int
	for i, n := range t.Nodes {
		if n.Style.Apart {
			apart = append(apart, i+1)
		}
		if n.Style.Hidden {
			gone = append(gone, i+1)
		}
	}
	return fmt.Sprintf("%s, apart %d, hidden %d", treeText(t), apart, gone)
}

// checkFlow compares each function for node n with the document, and the children with promise 12.
func checkFlow(t *testing.T, x impl.Tree, n int) {
	t.Helper()
	flow, apart := impl.FlowKids(x, n), impl.ApartKids(x, n)
	checkNumbers(t, "FlowKids", x, n, flow, wantFlow(x, n))
	checkNumbers(t, "ApartKids", x, n, apart, wantApart(x, n))
	checkNumbers(t, "AllUnder", x, n, impl.AllUnder(x, n), wantAll(x, n))
	if got := impl.IsGone(x, n); got != wantGone(x, n) {
		t.Errorf("IsGone(%d) of %s = %v", n, flowText(x), got)
	}
	if got, want := impl.RootOf(x, n), wantRoot(x, n); got != want {
		t.Errorf("RootOf(%d) of %s = %d, not %d", n, flowText(x), got, want)
	}
	if wantTree(x) && isNode(x, n) {
		checkEachOnce(t, x, n, flow, apart)
	}
}

// checkEachOnce is promise 12: a child is in one of the two lists or it is hidden, and never more than one of these.
func checkEachOnce(t *testing.T, x impl.Tree, n int, flow, apart []int) {
	t.Helper()
	all := append(slices.Concat(flow, apart), wantHidden(x, n)...)
	kids := slices.Clone(x.Nodes[n-1].Kids)
	slices.Sort(all)
	slices.Sort(kids)
	if !slices.Equal(all, kids) {
		t.Errorf("the kids %d of %d of %s are %d in the flow and %d apart", kids, n, flowText(x), flow, apart)
	}
}

func checkEachNode(t *testing.T, x impl.Tree) {
	t.Helper()
	for n := range len(x.Nodes) + 2 {
		checkFlow(t, x, n)
	}
}

func TestFlowKids(t *testing.T) {
	for _, c := range []struct {
		x    impl.Tree
		want []int
	}{
		{family(), nil},
		{ordered(0), []int{2}},
		{ordered(0, 0, 0), []int{2, 3, 4}},
		{ordered(1, 2, 3), []int{2, 3, 4}},
		{ordered(3, 2, 1), []int{4, 3, 2}},
		{ordered(0, -1, 1), []int{3, 2, 4}},
		{ordered(-5, -50, -500), []int{4, 3, 2}},
		{ordered(9, 10, 1), []int{4, 2, 3}},
		{ordered(1000, 0, -1000), []int{4, 3, 2}},
		{ordered(-1000, 1000, -1000, 1000), []int{2, 4, 3, 5}},
		// Children with equal order.
		{ordered(7, 7), []int{2, 3}},
		{ordered(2, 1, 2, 1), []int{3, 5, 2, 4}},
		{ordered(1, 2, 1, 2), []int{2, 4, 3, 5}},
		{ordered(0, -3, 0, 4, -3, 0), []int{3, 6, 2, 4, 7, 5}},
		{ordered(2, 2, 1, 1, 3, 3), []int{4, 5, 2, 3, 6, 7}},
		{withKids(ordered(7, 7, 7), 1, 4, 2, 3), []int{4, 2, 3}},
		{withKids(ordered(2, 1, 2, 1), 1, 5, 4, 3, 2), []int{5, 3, 4, 2}},
		{withKids(ordered(0, 0, -1, 0), 1, 5, 4, 2, 3), []int{4, 5, 2, 3}},
		// Children that are Hidden, that are Apart, that are both.
		{family(inFlow(0), hidden(0), inFlow(0)), []int{2, 4}},
		{family(inFlow(0), setApart(0), inFlow(0)), []int{2, 4}},
		{family(inFlow(0), setNowhere(0), inFlow(0)), []int{2, 4}},
		{family(inFlow(2), setApart(1), hidden(0), setNowhere(-1), inFlow(-2)), []int{6, 2}},
		{family(hidden(0)), nil},
		{family(setApart(0)), nil},
		{family(setNowhere(0)), nil},
		{family(hidden(-4), setApart(3), setNowhere(5)), nil},
		{family(hidden(1), inFlow(1), setApart(1), inFlow(1), setNowhere(1), inFlow(0)), []int{7, 3, 5}},
		// Neither the node itself nor what is under a child decides.
		{withStyle(ordered(2, 1), 1, setNowhere(-9)), []int{3, 2}},
		{withStyle(treeOf(0, 1, 1, 2), 4, hidden(-9)), []int{2, 3}},
		{withStyle(treeOf(0, 1, 1, 2), 4, setApart(-9)), []int{2, 3}},
		// Measured children.
		{measuredTree(ordered(2, 1, 2), 2, 3, 4), []int{3, 2, 4}},
		{measuredTree(family(hidden(0), setApart(0), inFlow(0)), 2, 3, 4), []int{4}},
	} {
		checkNumbers(t, "FlowKids", c.x, 1, impl.FlowKids(c.x, 1), c.want)
		checkEachNode(t, c.x)
	}
}

func TestApartKids(t *testing.T) {
	for _, c := range []struct {
		x    impl.Tree
		want []int
	}{
		{family(), nil},
		{family(setApart(0)), []int{2}},
		{family(inFlow(0)), nil},
		{family(hidden(0)), nil},
		{family(setNowhere(0)), nil},
		{family(inFlow(0), setApart(0), hidden(0), setNowhere(0)), []int{3}},
		{family(setApart(0), setApart(0), setApart(0)), []int{2, 3, 4}},
		// Order does not matter to them.
		{family(setApart(3), setApart(2), setApart(1)), []int{2, 3, 4}},
		{family(setApart(1000), inFlow(0), setApart(-1000), setApart(5)), []int{2, 4, 5}},
		{withKids(family(setApart(1), setApart(2), setApart(3)), 1, 4, 2, 3), []int{4, 2, 3}},
		{withKids(family(setApart(1), hidden(0), setApart(3), inFlow(0), setNowhere(7)), 1, 6, 5, 4, 3, 2), []int{4, 2}},
		// Neither the node itself nor what is under a child decides.
		{withStyle(family(setApart(0), inFlow(0)), 1, setNowhere(0)), []int{2}},
		{withStyle(treeOf(0, 1, 1, 2), 4, setApart(0)), nil},
		{measuredTree(family(setApart(0), inFlow(0), setNowhere(0)), 2, 3, 4), []int{2}},
	} {
		checkNumbers(t, "ApartKids", c.x, 1, impl.ApartKids(c.x, 1), c.want)
		checkEachNode(t, c.x)
	}
}

// checkStable asks of each two neighbours that they are in order, and in the order of Kids where their Order is equal.
func checkStable(t *testing.T, x impl.Tree, n int) {
	t.Helper()
	kids, flow := x.Nodes[n-1].Kids, impl.FlowKids(x, n)
	for i := 1; i < len(flow); i++ {
		before, behind := x.Nodes[flow[i-1]-1].Style.Order, x.Nodes[flow[i]-1].Style.Order
		if before > behind || before == behind && slices.Index(kids, flow[i-1]) > slices.Index(kids, flow[i]) {
			t.Errorf("FlowKids(%d) of %s = %d", n, flowText(x), flow)
		}
	}
	checkFlow(t, x, n)
}

func TestChildrenWithEqualOrderKeepTheirOrder(t *testing.T) {
	// Groups of two among two single ones, in every arrangement of the orders, and of the Kids.
	groups := []int{3, 3, -5, -5, 0, 1000}
	for _, orders := range arrangements(groups) {
		checkStable(t, ordered(orders...), 1)
	}
	for _, kids := range arrangements([]int{2, 3, 4, 5, 6, 7}) {
		checkStable(t, withKids(ordered(groups...), 1, kids...), 1)
	}
	// Groups of any sizes, with the Kids forward and backward.
	for _, orders := range listsOf(5, -1, 1) {
		x := ordered(orders...)
		checkStable(t, x, 1)
		kids := slices.Clone(x.Nodes[0].Kids)
		slices.Reverse(kids)
		checkStable(t, withKids(x, 1, kids...), 1)
	}
}

// TestTheGreatestNumberOfChildren has eleven children, in groups of every size.
func TestTheGreatestNumberOfChildren(t *testing.T) {
	const kids = mostNodes - 1
	for groups := 1; groups <= kids; groups++ {
		for step := 1; step <= kids; step++ {
			orders := make([]int, kids)
			for i := range orders {
				orders[i] = (kids-i*step)%groups*90 - 400
			}
			checkStable(t, ordered(orders...), 1)
		}
	}
	checkNumbers(t, "FlowKids", ordered(many(4, kids)...), 1, impl.FlowKids(ordered(many(4, kids)...), 1), []int{2, 3, 4, 5, 6, 7, 8, 9, 10, 11, 12})
	for _, s := range []impl.Style{inFlow(1), setApart(1), hidden(1), setNowhere(1)} {
		checkEachNode(t, family(slices.Repeat([]impl.Style{s}, kids)...))
	}
}

func TestEveryChildIsInTheFlowPositionedAbsolutelyOrHidden(t *testing.T) {
	var choices []impl.Style
	for order := -1; order <= 1; order++ {
		choices = append(choices, inFlow(order), setApart(order), hidden(order), setNowhere(order))
	}
	for _, picks := range listsOf(3, 0, len(choices)-1) {
		styles := make([]impl.Style, len(picks))
		for i, pick := range picks {
			styles[i] = choices[pick]
		}
		x := family(styles...)
		checkEachNode(t, x)
		slices.Reverse(x.Nodes[0].Kids)
		checkEachNode(t, x)
	}
	// Each of the four for each of six children.
	for _, picks := range listsOfLength(6, 0, 3) {
		styles := make([]impl.Style, len(picks))
		for i, pick := range picks {
			styles[i] = placed(-i/2, pick%2 == 1, pick/2 == 1)
		}
		checkFlow(t, family(styles...), 1)
	}
}

// TestFlowDependsOnThreeFieldsAlone changes every other one too, in the child and in its parent.
func TestFlowDependsOnThreeFieldsAlone(t *testing.T) {
	x := withStyle(family(inFlow(1), setApart(-1), inFlow(0), hidden(0), inFlow(1)), 4, fullStyle())
	for _, from := range append(validStyles(), inFlow(1), setApart(1), hidden(1), setNowhere(1)) {
		for _, s := range changedStyles(from) {
			for n := 1; n <= 3; n++ {
				checkEachNode(t, withStyle(x, n, s))
			}
		}
	}
}

func TestIsGone(t *testing.T) {
	tree := treeOf(0, 1, 2, 3, 1, 0)
	for _, c := range []struct {
		hide []int
		n    int
		want bool
	}{
		{nil, 1, false},
		{nil, 4, false},
		{nil, 6, false},
		// It is Hidden itself.
		{[]int{1}, 1, true},
		{[]int{3}, 3, true},
		{[]int{4}, 4, true},
		{[]int{6}, 6, true},
		// Its parent is, or an ancestor further up.
		{[]int{1}, 2, true},
		{[]int{1}, 3, true},
		{[]int{1}, 4, true},
		{[]int{1}, 5, true},
		{[]int{2}, 3, true},
		{[]int{2}, 4, true},
		{[]int{3}, 4, true},
		{[]int{1, 2, 3, 4}, 4, true},
		{[]int{1, 4}, 3, true},
		// Its child alone is, or a descendant further down, a sibling, or a node of another tree.
		{[]int{2}, 1, false},
		{[]int{4}, 3, false},
		{[]int{4}, 1, false},
		{[]int{3, 4}, 2, false},
		{[]int{2, 5}, 1, false},
		{[]int{5}, 2, false},
		{[]int{5}, 4, false},
		{[]int{2}, 5, false},
		{[]int{6}, 1, false},
		{[]int{1}, 6, false},
	} {
		x := withStyles(tree, hidden(0), c.hide...)
		if got := impl.IsGone(x, c.n); got != c.want {
			t.Errorf("IsGone(%d) of %s = %v", c.n, flowText(x), got)
		}
		checkEachNode(t, x)
	}
	// A node that is set apart is not gone.
	if x := withStyles(tree, setApart(0), 1, 2, 3, 4, 5, 6); impl.IsGone(x, 4) || impl.IsGone(x, 1) {
		t.Error("a node that is set apart is gone")
	}
}

// TestIsGoneWithEachNodesHidden goes through every choice of hidden nodes.
func TestIsGoneWithEachNodesHidden(t *testing.T) {
	for _, from := range []impl.Tree{chain(mostDepth), backChain(mostDepth), treeOf(0, 1, 1, 2, 3, 5), treeOf(6, 6, 1, 1, 0, 0)} {
		for choice := range 1 << len(from.Nodes) {
			x := cloneTree(from)
			for i := range x.Nodes {
				x.Nodes[i].Style.Hidden = choice>>i&1 == 1
				x.Nodes[i].Style.Apart = choice>>i&2 == 2
			}
			checkEachNode(t, x)
		}
	}
}

func TestRootOf(t *testing.T) {
	for _, c := range []struct {
		ups  []int
		n    int
		want int
	}{
		{[]int{0}, 1, 1},
		{[]int{0, 1}, 1, 1},
		{[]int{0, 1}, 2, 1},
		{[]int{2, 0}, 1, 2},
		{[]int{2, 0}, 2, 2},
		{[]int{0, 1, 2, 3}, 4, 1},
		{[]int{0, 1, 2, 3}, 3, 1},
		{[]int{2, 3, 4, 0}, 1, 4},
		{[]int{2, 3, 4, 0}, 4, 4},
		// Each tree has its own.
		{[]int{0, 0, 1, 2}, 3, 1},
		{[]int{0, 0, 1, 2}, 4, 2},
		{[]int{0, 0, 1, 2}, 2, 2},
		{[]int{0, 0, 0}, 3, 3},
		{[]int{0, 12, 2, 3, 1, 5, 6, 12, 0, 9, 10, 0}, 4, 12},
		{[]int{0, 12, 2, 3, 1, 5, 6, 12, 0, 9, 10, 0}, 7, 1},
		{[]int{0, 12, 2, 3, 1, 5, 6, 12, 0, 9, 10, 0}, 11, 9},
		// No such node, and a depth that is not valid.
		{nil, 0, 0},
		{nil, 1, 0},
		{[]int{0, 1}, 0, 0},
		{[]int{0, 1}, -1, 0},
		{[]int{0, 1}, 3, 0},
		{[]int{0, 1, 2, 3, 4}, 5, 0},
		{[]int{0, 1, 2, 3, 4}, 1, 0},
		{[]int{0, 3, 2}, 1, 0},
	} {
		x := treeOf(c.ups...)
		if got := impl.RootOf(x, c.n); got != c.want {
			t.Errorf("RootOf(%d) of the parents %d = %d, not %d", c.n, c.ups, got, c.want)
		}
		// Whether a node is hidden or set apart does not matter.
		for n := range x.Nodes {
			checkFlow(t, withStyle(x, n+1, setNowhere(5)), c.n)
		}
	}
}

func TestAllUnder(t *testing.T) {
	for _, c := range []struct {
		x    impl.Tree
		n    int
		want []int
	}{
		{treeOf(0), 1, []int{1}},
		{treeOf(0, 1), 1, []int{1, 2}},
		{treeOf(0, 1), 2, []int{2}},
		{treeOf(2, 0), 2, []int{2, 1}},
		{chain(4), 1, []int{1, 2, 3, 4}},
		{chain(4), 3, []int{3, 4}},
		{chain(4), 4, []int{4}},
		{backChain(4), 4, []int{4, 3, 2, 1}},
		{backChain(4), 2, []int{2, 1}},
		// All under a child come before the next one.
		{treeOf(0, 1, 1, 2, 3), 1, []int{1, 2, 4, 3, 5}},
		{treeOf(0, 1, 1, 2, 2, 3), 1, []int{1, 2, 4, 5, 3, 6}},
		{treeOf(0, 1, 1, 2, 2, 3), 2, []int{2, 4, 5}},
		{withKids(treeOf(0, 1, 1, 2, 2, 3), 1, 3, 2), 1, []int{1, 3, 6, 2, 4, 5}},
		{withKids(withKids(treeOf(0, 1, 1, 2, 2, 3), 1, 3, 2), 2, 5, 4), 1, []int{1, 3, 6, 2, 5, 4}},
		{treeOf(0, 1, 1, 2, 2, 3, 3, 4, 4, 5, 5, 6), 1, []int{1, 2, 4, 8, 9, 5, 10, 11, 3, 6, 12, 7}},
		// Nothing of another tree.
		{treeOf(0, 0, 1, 2), 1, []int{1, 3}},
		{treeOf(0, 0, 1, 2), 2, []int{2, 4}},
		{treeOf(0, 0, 0), 2, []int{2}},
		// In order of the Kids, whatever their Order is, and also those that are hidden or set apart.
		{ordered(3, 2, 1), 1, []int{1, 2, 3, 4}},
		{family(setApart(3), hidden(2), setNowhere(1), inFlow(0)), 1, []int{1, 2, 3, 4, 5}},
		{withStyles(treeOf(0, 1, 1, 2, 2, 3), setNowhere(-1), 1, 3, 5), 1, []int{1, 2, 4, 5, 3, 6}},
		{withStyles(chain(4), hidden(0), 1, 2), 1, []int{1, 2, 3, 4}},
		{measuredTree(treeOf(0, 1, 1), 2, 3), 1, []int{1, 2, 3}},
		{treeOf(0, 1), 3, nil},
		{treeOf(0, 1), 0, nil},
		{treeOf(0, 1), -1, nil},
		{impl.Tree{}, 1, nil},
		{chain(5), 5, nil},
		{circle(2), 1, nil},
	} {
		checkNumbers(t, "AllUnder", c.x, c.n, impl.AllUnder(c.x, c.n), c.want)
		checkEachNode(t, c.x)
	}
}

// TestAllUnderAreTheDescendants asks IsUnder and RootOf of the same tree.
func TestAllUnderAreTheDescendants(t *testing.T) {
	for _, x := range append(validTrees(), everyTree(4)...) {
		for n := 1; n <= len(x.Nodes); n++ {
			all := impl.AllUnder(x, n)
			for m := 1; m <= len(x.Nodes); m++ {
				times := len(slices.DeleteFunc(slices.Clone(all), func(other int) bool { return other != m }))
				want := 0
				if m == n || impl.IsUnder(x, m, n) {
					want = 1
				}
				if times != want {
					t.Errorf("AllUnder(%d) of %s has %d %d times", n, treeText(x), m, times)
				}
				if want == 1 && impl.RootOf(x, m) != impl.RootOf(x, n) {
					t.Errorf("%d and %d of %s have the roots %d and %d", n, m, treeText(x), impl.RootOf(x, n), impl.RootOf(x, m))
				}
			}
		}
	}
}

// checkNothing asks for the results where t is not valid or there is no node n.
func checkNothing(t *testing.T, x impl.Tree, n int) {
	t.Helper()
	flow, apart, all := impl.FlowKids(x, n), impl.ApartKids(x, n), impl.AllUnder(x, n)
	gone, root := impl.IsGone(x, n), impl.RootOf(x, n)
	if len(flow) != 0 || len(apart) != 0 || len(all) != 0 || !gone || root != 0 {
		t.Errorf("node %d of %s has %d, %d, %d, %v and %d", n, flowText(x), flow, apart, all, gone, root)
	}
}

func TestFlowOfANodeThatDoesNotExist(t *testing.T) {
	for _, x := range append(validTrees(), family(inFlow(0), setApart(0), hidden(0))) {
		count := len(x.Nodes)
		for _, n := range append(nodeNumbers(), count+1, count+2, -count, -count-1) {
			if n < 1 || n > count {
				checkNothing(t, x, n)
			}
			checkFlow(t, x, n)
		}
	}
	for _, n := range nodeNumbers() {
		checkNothing(t, impl.Tree{}, n)
	}
}

func TestFlowOfATreeThatIsNotValid(t *testing.T) {
	for _, x := range wrongTrees() {
		for _, n := range nodeNumbers() {
			checkNothing(t, x, n)
		}
	}
	// Only another node, far from n, is wrong.
	valid := withStyle(treeOf(0, 1, 1, 0, 4), 3, setApart(0))
	for _, x := range []impl.Tree{
		withStyle(valid, 5, impl.Style{}), withTable(valid, 5, true, impl.Table{}), withTable(valid, 5, false, roomTable(3)),
		withUp(valid, 5, 0), withUp(valid, 4, 9), withKids(valid, 4), withKids(valid, 4, 5, 5), withKids(valid, 5, 6),
	} {
		for n := range 7 {
			checkNothing(t, x, n)
		}
	}
	checkEachNode(t, valid)
}

func TestFlowOfEachTree(t *testing.T) {
	for _, from := range append(validTrees(), everyTree(4)...) {
		checkEachNode(t, from)
		// The last nodes come first, and each third one is apart, hidden or both.
		x := cloneTree(from)
		for i := range x.Nodes {
			x.Nodes[i].Style = placed(-i/2, i%3 == 2, false)
		}
		checkEachNode(t, x)
		for i := range x.Nodes {
			x.Nodes[i].Style = placed(i%2, i%4 >= 2, i%5 == 3)
		}
		checkEachNode(t, x)
	}
}

func TestFlowAtTheLimitsOfOrder(t *testing.T) {
	for _, order := range []int{-1000, -999, 999, 1000} {
		x := ordered(0, order, 0, order)
		if len(impl.FlowKids(x, 1)) != 4 {
			t.Errorf("FlowKids of %s = %d", flowText(x), impl.FlowKids(x, 1))
		}
		checkEachNode(t, x)
	}
	// Beyond them the tree is not valid, whichever node has it.
	for _, order := range []int{math.MinInt, math.MinInt + 1, math.MinInt + 1000, -1<<32 + 5, -1001, 1001, 1<<32 + 5, math.MaxInt - 1000, math.MaxInt - 1, math.MaxInt} {
		for _, s := range []impl.Style{inFlow(order), setApart(order), hidden(order), setNowhere(order)} {
			for n := 1; n <= 4; n++ {
				x := withStyle(family(inFlow(0), setApart(0), hidden(0)), n, s)
				for _, m := range nodeNumbers() {
					checkNothing(t, x, m)
				}
			}
		}
	}
}

func TestFlowOfTheEndsOfInt(t *testing.T) {
	ends := []int{math.MinInt, math.MinInt + 1, math.MaxInt - 1, math.MaxInt}
	for _, n := range ends {
		checkNothing(t, family(inFlow(0), setApart(0), hidden(0)), n)
		checkNothing(t, impl.Tree{}, n)
		for _, m := range append(ends, 0, 1, 2, 3) {
			checkNothing(t, ordered(n, 0), m)
			checkNothing(t, ordered(n, m), 1)
			checkNothing(t, treeOf(0, n), m)
			checkNothing(t, withKids(treeOf(0, 1), 1, 2, n), m)
			checkNothing(t, withStyle(treeOf(0, 1), 2, evenStyle(n, true)), m)
		}
	}
}

// flowLists holds the list of each function that returns one.
func flowLists(x impl.Tree, n int) [][]int {
	return [][]int{impl.FlowKids(x, n), impl.ApartKids(x, n), impl.AllUnder(x, n)}
}

// TestFlowSharesNoMemory looks at the spare capacity too, and at the addresses of what is returned.
func TestFlowSharesNoMemory(t *testing.T) {
	trees := append(validTrees(), wrongTrees()...)
	trees = append(trees, ordered(1, 1, 1), ordered(3, 2, 1), family(setApart(1), setApart(1)), family(inFlow(0), setApart(0), hidden(0), setNowhere(0), inFlow(-1)))
	for _, from := range trees {
		x := roomy(from)
		before := wholeTree(x)
		for _, n := range []int{-1, 0, 1, 2, 3, 4, mostNodes} {
			first, second := flowLists(x, n), flowLists(x, n)
			for i, list := range append(slices.Clone(first), second...) {
				others := append(slices.Clone(first), second...)
				if sharesMemory(list, x, slices.Delete(others, i, i+1)) {
					t.Errorf("list %d of node %d of %s is shared memory", i, n, flowText(x))
				}
			}
			// What a result is used for later does not change the tree or another result.
			for i, list := range first {
				clear(list[:cap(list)])
				if !slices.Equal(second[i], flowLists(x, n)[i]) {
					t.Errorf("list %d of node %d of %s has changed", i, n, flowText(x))
				}
			}
			impl.IsGone(x, n)
			impl.RootOf(x, n)
		}
		if !sameTree(wholeTree(x), before) {
			t.Errorf("%s became %s", flowText(before), flowText(wholeTree(x)))
		}
	}
}

// TestFlowAfterOperations moves a child through every role.
func TestFlowAfterOperations(t *testing.T) {
	x := ordered(2, 1, 1)
	for _, c := range []struct {
		s           impl.Style
		flow, apart []int
		gone        bool
	}{
		{inFlow(0), []int{3, 4, 2}, nil, false},
		{inFlow(1), []int{3, 4, 2}, nil, false},
		{inFlow(2), []int{4, 2, 3}, nil, false},
		{inFlow(3), []int{4, 2, 3}, nil, false},
		{setApart(0), []int{4, 2}, []int{3}, false},
		{setNowhere(0), []int{4, 2}, nil, true},
		{hidden(0), []int{4, 2}, nil, true},
		{inFlow(-1000), []int{3, 4, 2}, nil, false},
	} {
		next, code := impl.SetStyle(x, 3, c.s)
		if code != 0 || impl.IsGone(next, 3) != c.gone || impl.IsGone(next, 2) {
			t.Errorf("%s has the code %d", flowText(next), code)
		}
		checkNumbers(t, "FlowKids", next, 1, impl.FlowKids(next, 1), c.flow)
		checkNumbers(t, "ApartKids", next, 1, impl.ApartKids(next, 1), c.apart)
		checkEachNode(t, next)
		x = next
	}
	x, _ = impl.RemoveKid(x, 1, 3)
	checkNumbers(t, "FlowKids", x, 1, impl.FlowKids(x, 1), []int{4, 2})
	checkNumbers(t, "AllUnder", x, 1, impl.AllUnder(x, 1), []int{1, 2, 4})
	if impl.RootOf(x, 3) != 3 {
		t.Errorf("RootOf a removed child = %d", impl.RootOf(x, 3))
	}
	x, _ = impl.InsertKid(x, 4, 3, 0)
	checkNumbers(t, "AllUnder", x, 1, impl.AllUnder(x, 1), []int{1, 2, 4, 3})
	if impl.RootOf(x, 3) != 1 {
		t.Errorf("RootOf an inserted child = %d", impl.RootOf(x, 3))
	}
	checkEachNode(t, x)
}
