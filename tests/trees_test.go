package tests

import (
	"fmt"
	"math"
	"slices"
	"testing"

	"loop.example/g00972/impl"
)

func TestTreesConstants(t *testing.T) {
	// The constants have no type, so they also fit in variables of another one.
	got := []int8{
		impl.MaxNodes, impl.MaxDepth,
		impl.TrNode, impl.TrCycle, impl.TrPlace, impl.TrStyle, impl.TrMany, impl.TrTable, impl.TrDeep,
	}
	if !slices.Equal(got, []int8{12, 4, 1, 2, 3, 4, 5, 6, 7}) {
		t.Errorf("the constants are %d", got)
	}
}

func TestTreeOk(t *testing.T) {
	for _, x := range validTrees() {
		if !impl.TreeOk(x) {
			t.Errorf("TreeOk of %s = false", treeText(x))
		}
	}
	for _, x := range wrongTrees() {
		if impl.TreeOk(x) {
			t.Errorf("TreeOk of %s = true", treeText(x))
		}
	}
}

func TestTreeOkCountsTheNodes(t *testing.T) {
	for _, n := range []int{0, 1, 2, 11, 12, 13, 14, 24, 256, 256 + 12, 1000} {
		if got := impl.TreeOk(treeOf(make([]int, n)...)); got != (n <= 12) {
			t.Errorf("TreeOk of %d nodes = %v", n, got)
		}
	}
}

func TestTreeOkLimitsTheDepth(t *testing.T) {
	for n := range 15 {
		for _, x := range []impl.Tree{chain(n), backChain(n)} {
			if got := impl.TreeOk(x); got != (n <= 4) {
				t.Errorf("TreeOk of a chain of %d nodes = %v", n, got)
			}
		}
	}
	// The deepest node is under a later one of the Kids.
	for _, c := range []struct {
		ups  []int
		want bool
	}{
		{[]int{0, 1, 1, 3, 4}, true},
		{[]int{0, 1, 1, 3, 4, 5}, false},
		{[]int{0, 0, 2, 3, 4}, true},
		{[]int{0, 0, 2, 3, 4, 5}, false},
		{[]int{0, 1, 2, 3, 3, 3}, true},
		{[]int{0, 1, 2, 3, 3, 3, 6}, false},
	} {
		if got := impl.TreeOk(treeOf(c.ups...)); got != c.want {
			t.Errorf("TreeOk of the parents %d = %v", c.ups, got)
		}
	}
}

func TestTreeOkFindsCycles(t *testing.T) {
	for n := 1; n <= 13; n++ {
		if impl.TreeOk(circle(n)) {
			t.Errorf("TreeOk of a cycle of %d nodes = true", n)
		}
		// A cycle beside a valid tree, and one that the last node leads into.
		ups := []int{0, 1}
		for i := range n {
			ups = append(ups, (i+1)%n+3)
		}
		for _, x := range []impl.Tree{treeOf(ups...), treeOf(append(ups, n+2)...)} {
			if impl.TreeOk(x) {
				t.Errorf("TreeOk of %s = true", treeText(x))
			}
		}
	}
}

func TestTreeOkChecksEachUp(t *testing.T) {
	for _, from := range validTrees() {
		for n := range from.Nodes {
			for _, up := range nodeNumbers() {
				x := withUp(from, n+1, up)
				if got, want := impl.TreeOk(x), up == from.Nodes[n].Up; got != want {
					t.Errorf("TreeOk of %s = %v", treeText(x), got)
				}
			}
		}
	}
}

func TestTreeOkChecksEachElementOfKids(t *testing.T) {
	for _, from := range validTrees() {
		for n, node := range from.Nodes {
			for at := range node.Kids {
				for _, kid := range nodeNumbers() {
					kids := slices.Clone(node.Kids)
					kids[at] = kid
					x := withKids(from, n+1, kids...)
					if got, want := impl.TreeOk(x), kid == node.Kids[at]; got != want {
						t.Errorf("TreeOk of %s = %v", treeText(x), got)
					}
				}
				// Without one of the Kids, and with one more of any number.
				if x := withKids(from, n+1, slices.Delete(slices.Clone(node.Kids), at, at+1)...); impl.TreeOk(x) {
					t.Errorf("TreeOk of %s = true", treeText(x))
				}
			}
			for at := range len(node.Kids) + 1 {
				for _, kid := range nodeNumbers() {
					if x := withKids(from, n+1, slices.Insert(slices.Clone(node.Kids), at, kid)...); impl.TreeOk(x) {
						t.Errorf("TreeOk of %s = true", treeText(x))
					}
				}
			}
		}
	}
}

func TestTreeOkTakesKidsInAnyOrder(t *testing.T) {
	for _, kids := range [][]int{{2, 3, 4}, {2, 4, 3}, {3, 2, 4}, {3, 4, 2}, {4, 2, 3}, {4, 3, 2}} {
		if !impl.TreeOk(withKids(treeOf(0, 1, 1, 1), 1, kids...)) {
			t.Errorf("TreeOk with the kids %d = false", kids)
		}
	}
}

func TestTreeOkChecksEachStyle(t *testing.T) {
	wrong := []impl.Style{{}, evenStyle(math.MinInt, true), evenStyle(math.MaxInt, false), withField(impl.StyleNew(), "Grow", impl.MaxFactor+1)}
	for _, from := range validTrees() {
		for n := range from.Nodes {
			for _, s := range validStyles() {
				if !impl.TreeOk(withStyle(from, n+1, s)) {
					t.Errorf("TreeOk with the valid style %+v at %d of %s = false", s, n+1, treeText(from))
				}
			}
			for _, s := range wrong {
				if impl.TreeOk(withStyle(from, n+1, s)) {
					t.Errorf("TreeOk with the style %+v at %d of %s = true", s, n+1, treeText(from))
				}
			}
		}
	}
}

func TestTreeOkChecksEachTable(t *testing.T) {
	for _, from := range validTrees() {
		for n, node := range from.Nodes {
			for _, content := range edgeTables() {
				for _, measured := range []bool{false, true} {
					x := withTable(from, n+1, measured, content)
					want := len(content.Rules) == 0
					if measured {
						want = impl.TableOk(content) && len(node.Kids) == 0
					}
					if got := impl.TreeOk(x); got != want {
						t.Errorf("TreeOk of %s = %v", treeText(x), got)
					}
				}
			}
		}
	}
}

// TestTreeOkOfEverySmallTree goes through all links between two nodes, and many between three.
func TestTreeOkOfEverySmallTree(t *testing.T) {
	two := listsOf(2, -1, 3)
	for _, ups := range listsOfLength(2, -1, 3) {
		for _, first := range two {
			for _, second := range two {
				x := treeOf(ups...)
				x.Nodes[0].Kids, x.Nodes[1].Kids = first, second
				if got := impl.TreeOk(x); got != wantTree(x) {
					t.Errorf("TreeOk of %s = %v", treeText(x), got)
				}
			}
		}
	}
	three := listsOf(2, 1, 3)
	for _, ups := range listsOfLength(3, 0, 3) {
		for _, first := range three {
			for _, second := range three {
				for _, third := range three {
					x := treeOf(ups...)
					x.Nodes[0].Kids, x.Nodes[1].Kids, x.Nodes[2].Kids = first, second, third
					if got := impl.TreeOk(x); got != wantTree(x) {
						t.Errorf("TreeOk of %s = %v", treeText(x), got)
					}
				}
			}
		}
	}
}

// listsOfLength holds every list of n numbers from least to most.
func listsOfLength(n, least, most int) [][]int {
	lists := [][]int{{}}
	for range n {
		var longer [][]int
		for _, list := range lists {
			for number := least; number <= most; number++ {
				longer = append(longer, append(slices.Clone(list), number))
			}
		}
		lists = longer
	}
	return lists
}

// listsOf holds every list of up to n numbers from least to most.
func listsOf(n, least, most int) [][]int {
	var lists [][]int
	for length := range n + 1 {
		lists = append(lists, listsOfLength(length, least, most)...)
	}
	return lists
}

func TestDepthOf(t *testing.T) {
	for _, c := range []struct {
		ups  []int
		n    int
		want int
	}{
		{nil, 0, 0},
		{nil, 1, 0},
		{[]int{0}, 1, 1},
		{[]int{0}, 0, 0},
		{[]int{0}, -1, 0},
		{[]int{0}, 2, 0},
		{[]int{0}, math.MinInt, 0},
		{[]int{0}, math.MaxInt, 0},
		{[]int{0, 1, 2, 3}, 1, 1},
		{[]int{0, 1, 2, 3}, 3, 3},
		{[]int{0, 1, 2, 3}, 4, 4},
		{[]int{2, 3, 4, 0}, 1, 4},
		{[]int{2, 3, 4, 0}, 4, 1},
		// The depth of a tree that is not valid is not limited.
		{[]int{0, 1, 2, 3, 4}, 5, 5},
		{[]int{0, 1, 2, 3, 4, 5, 6, 7, 8, 9, 10, 11, 12}, 13, 13},
		// A cycle of one node, and of several, from within and from below.
		{[]int{1}, 1, 0},
		{[]int{2, 1}, 1, 0},
		{[]int{2, 1}, 2, 0},
		{[]int{2, 3, 1}, 3, 0},
		{[]int{2, 3, 4, 2}, 1, 0},
		{[]int{0, 2, 2}, 3, 0},
		{[]int{0, 2, 2}, 1, 1},
		{[]int{0, 1, 4, 3}, 2, 2},
		// A parent does not exist, at once and later.
		{[]int{2}, 1, 0},
		{[]int{-1}, 1, 0},
		{[]int{math.MinInt}, 1, 0},
		{[]int{math.MaxInt}, 1, 0},
		{[]int{0, 4, 2}, 2, 0},
		{[]int{0, 4, 2}, 3, 0},
		{[]int{0, 4, 2}, 1, 1},
		{[]int{-1, 1, 2}, 3, 0},
		{[]int{math.MinInt + 1, 1}, 2, 0},
	} {
		if got := impl.DepthOf(treeOf(c.ups...), c.n); got != c.want {
			t.Errorf("DepthOf(%d) of the parents %d = %d, not %d", c.n, c.ups, got, c.want)
		}
	}
	// Only Up counts, and not Kids, styles or tables.
	x := withKids(withStyle(chain(3), 2, impl.Style{}), 1)
	if got := impl.DepthOf(withTable(x, 3, true, roomTable(-9)), 3); got != 3 {
		t.Errorf("DepthOf of a tree that is not valid = %d", got)
	}
}

func TestDepthOfLongWays(t *testing.T) {
	for _, n := range []int{13, 64, 300, 2000} {
		up, down, round := backChain(n), chain(n), circle(n)
		if a, b, c := impl.DepthOf(up, 1), impl.DepthOf(down, n), impl.DepthOf(round, n/2); a != n || b != n || c != 0 {
			t.Errorf("the depths of %d nodes are %d, %d and %d", n, a, b, c)
		}
		if !impl.IsUnder(up, 1, n) || !impl.IsUnder(down, n, 1) || !impl.IsUnder(round, 3, 3) || impl.IsUnder(up, n, 1) {
			t.Errorf("IsUnder of %d nodes is wrong", n)
		}
	}
}

func TestIsUnder(t *testing.T) {
	for _, c := range []struct {
		ups  []int
		n    int
		top  int
		want bool
	}{
		{nil, 1, 1, false},
		{nil, 0, 0, false},
		{[]int{0}, 1, 1, false},
		{[]int{0}, 1, 0, false},
		{[]int{0}, 0, 1, false},
		{[]int{0, 1}, 2, 1, true},
		{[]int{0, 1}, 1, 2, false},
		{[]int{0, 1}, 2, 2, false},
		{[]int{0, 1}, 2, 0, false},
		{[]int{0, 1}, 3, 1, false},
		{[]int{0, 1}, 2, 3, false},
		{[]int{0, 1}, 0, 1, false},
		{[]int{0, 1}, -1, 1, false},
		{[]int{0, 1}, math.MinInt, 1, false},
		{[]int{0, 1}, math.MaxInt, 1, false},
		{[]int{0, 1}, 2, math.MinInt, false},
		{[]int{0, 1}, 2, math.MaxInt, false},
		{[]int{0, 1, 2, 3}, 4, 1, true},
		{[]int{0, 1, 2, 3}, 4, 2, true},
		{[]int{0, 1, 2, 3}, 4, 3, true},
		{[]int{0, 1, 2, 3}, 2, 3, false},
		// Neither in another tree nor beside each other.
		{[]int{0, 0}, 1, 2, false},
		{[]int{0, 1, 1}, 2, 3, false},
		{[]int{0, 1, 0, 3}, 4, 1, false},
		// Deeper than a valid tree.
		{[]int{0, 1, 2, 3, 4}, 5, 1, true},
		// A node of a cycle is under each node of it, also itself.
		{[]int{1}, 1, 1, true},
		{[]int{2, 1}, 1, 1, true},
		{[]int{2, 1}, 1, 2, true},
		{[]int{2, 3, 1}, 1, 3, true},
		{[]int{2, 3, 1}, 3, 3, true},
		{[]int{2, 3, 2}, 1, 3, true},
		{[]int{2, 3, 2}, 1, 2, true},
		{[]int{2, 3, 2}, 1, 1, false},
		{[]int{2, 3, 2}, 2, 1, false},
		{[]int{0, 3, 2}, 2, 1, false},
		// Up to a node that does not exist, but not through it.
		{[]int{-1, 1}, 2, 1, true},
		{[]int{-1, 1}, 2, -1, false},
		{[]int{9, 1}, 2, 1, true},
		{[]int{9, 1}, 2, 9, false},
		{[]int{0, 9, 2}, 3, 1, false},
		{[]int{0, 9, 2}, 3, 2, true},
		{[]int{math.MinInt, 1}, 2, 1, true},
		{[]int{math.MinInt, 1}, 2, math.MinInt, false},
		{[]int{math.MaxInt}, 1, math.MaxInt, false},
	} {
		if got := impl.IsUnder(treeOf(c.ups...), c.n, c.top); got != c.want {
			t.Errorf("IsUnder(%d, %d) of the parents %d = %v", c.n, c.top, c.ups, got)
		}
	}
	// Only Up counts, and not Kids, styles or tables.
	x := withKids(withStyle(chain(3), 2, impl.Style{}), 1)
	if x = withTable(x, 3, true, roomTable(-9)); !impl.IsUnder(x, 3, 1) || impl.IsUnder(withKids(treeOf(0, 0), 1, 2), 2, 1) {
		t.Error("IsUnder of a tree that is not valid is wrong")
	}
}

func TestDepthAndUnderOfEveryUp(t *testing.T) {
	numbers := []int{math.MinInt, -1, 0, 1, 2, 3, 4, 5, math.MaxInt}
	for _, ups := range listsOf(4, -1, 5) {
		checkLooks(t, treeOf(ups...), numbers)
	}
	for _, x := range append(validTrees(), wrongTrees()...) {
		checkLooks(t, x, nodeNumbers())
	}
	for _, up := range nodeNumbers() {
		for _, x := range []impl.Tree{treeOf(up), treeOf(0, up), treeOf(up, 1), treeOf(2, 3, up), treeOf(0, 1, up, 3)} {
			checkLooks(t, x, nodeNumbers())
		}
	}
}

func TestAddNode(t *testing.T) {
	x := impl.Tree{}
	for n := 1; n <= 12; n++ {
		next, got := impl.AddNode(x, numberedStyle(n))
		if got != n || !sameTree(next, treeOf(make([]int, n)...)) || !impl.TreeOk(next) {
			t.Errorf("AddNode number %d = %s and %d", n, treeText(next), got)
		}
		x = next
	}
	if next, got := impl.AddNode(x, numberedStyle(13)); got != 0 || !sameTree(next, x) {
		t.Errorf("AddNode to 12 nodes = %s and %d", treeText(next), got)
	}
	// What a node has is not taken over by the next one.
	x = measuredTree(treeOf(0, 1), 2)
	next, got := impl.AddNode(x, fullStyle())
	if got != 3 || !sameNode(next.Nodes[2], impl.Node{Style: fullStyle()}) || !sameTree(impl.Tree{Nodes: next.Nodes[:2]}, x) {
		t.Errorf("AddNode = %s and %d", treeText(next), got)
	}
}

func TestAddNodeOfEachTreeAndStyle(t *testing.T) {
	for _, x := range append(validTrees(), wrongTrees()...) {
		for _, s := range anyStyles() {
			checkCall(t, x, addCall(s))
		}
	}
}

func TestInsertKid(t *testing.T) {
	three := treeOf(0, 1, 1, 1, 0)
	for _, c := range []struct {
		x    impl.Tree
		n    int
		kid  int
		at   int
		code int
		kids []int
	}{
		{treeOf(0, 0), 1, 2, 0, 0, []int{2}},
		{treeOf(0, 0), 2, 1, 0, 0, []int{1}},
		{three, 1, 5, 0, 0, []int{5, 2, 3, 4}},
		{three, 1, 5, 1, 0, []int{2, 5, 3, 4}},
		{three, 1, 5, 2, 0, []int{2, 3, 5, 4}},
		{three, 1, 5, 3, 0, []int{2, 3, 4, 5}},
		// Before the first place and behind the last one.
		{three, 1, 5, -1, codePlace, nil},
		{three, 1, 5, 4, codePlace, nil},
		{three, 1, 5, math.MinInt, codePlace, nil},
		{three, 1, 5, math.MaxInt, codePlace, nil},
		{treeOf(0, 0), 1, 2, -1, codePlace, nil},
		{treeOf(0, 0), 1, 2, 1, codePlace, nil},
		// No such node.
		{three, 0, 5, 0, codeNode, nil},
		{three, -1, 5, 0, codeNode, nil},
		{three, 6, 5, 0, codeNode, nil},
		{three, math.MinInt, 5, 0, codeNode, nil},
		{three, math.MaxInt, 5, 0, codeNode, nil},
		{three, 1, 0, 0, codeNode, nil},
		{three, 1, -1, 0, codeNode, nil},
		{three, 1, 6, 0, codeNode, nil},
		{three, 1, math.MinInt, 0, codeNode, nil},
		{three, 1, math.MaxInt, 0, codeNode, nil},
		{impl.Tree{}, 0, 0, 0, codeNode, nil},
		{impl.Tree{}, 1, 1, 0, codeNode, nil},
		// Into itself, into its child and into a later descendant.
		{treeOf(0), 1, 1, 0, codeCycle, nil},
		{chain(4), 1, 1, 0, codeCycle, nil},
		{chain(4), 3, 3, 0, codeCycle, nil},
		{chain(4), 2, 1, 0, codeCycle, nil},
		{chain(4), 3, 1, 0, codeCycle, nil},
		{chain(4), 4, 1, 0, codeCycle, nil},
		{chain(4), 4, 2, 0, codeCycle, nil},
		{chain(4), 4, 3, 0, codeCycle, nil},
		// It has a parent already, in the same place and elsewhere.
		{three, 1, 2, 0, codePlace, nil},
		{three, 1, 4, 2, codePlace, nil},
		{three, 1, 4, 0, codePlace, nil},
		{three, 5, 2, 0, codePlace, nil},
		{three, 2, 3, 0, codePlace, nil},
		{chain(4), 1, 3, 0, codePlace, nil},
		// A node with content of its own.
		{measuredTree(treeOf(0, 0), 1), 1, 2, 0, codeTable, nil},
		{measuredTree(treeOf(0, 0), 2), 1, 2, 0, 0, []int{2}},
		{measuredTree(treeOf(0, 0, 0), 1, 2), 3, 2, 0, 0, []int{2}},
		// As deep as it may be, and one deeper.
		{treeOf(0, 1, 2, 0), 3, 4, 0, 0, []int{4}},
		{treeOf(0, 1, 2, 3, 0), 4, 5, 0, codeDeep, nil},
		{treeOf(0, 1, 2, 0, 4), 3, 4, 0, codeDeep, nil},
		{treeOf(0, 1, 2, 0, 4), 2, 4, 1, 0, []int{3, 4}},
		{treeOf(0, 1, 2, 0, 4), 5, 1, 0, codeDeep, nil},
		{treeOf(0, 1, 0, 3, 4, 5), 1, 3, 1, codeDeep, nil},
		{treeOf(0, 1, 0, 3, 4), 1, 3, 1, 0, []int{2, 3}},
		{treeOf(0, 1, 0, 3, 4), 2, 3, 0, codeDeep, nil},
		// The deepest node is not under the first of the Kids.
		{treeOf(0, 1, 0, 3, 3, 5), 2, 3, 0, codeDeep, nil},
		{withKids(treeOf(0, 1, 0, 3, 3, 5), 3, 5, 4), 2, 3, 0, codeDeep, nil},
		{treeOf(0, 1, 0, 3, 3, 5), 1, 3, 0, 0, []int{3, 2}},
	} {
		got, code := impl.InsertKid(c.x, c.n, c.kid, c.at)
		want := c.x
		if c.code == 0 {
			want = withUp(withKids(c.x, c.n, c.kids...), c.kid, c.n)
		}
		if code != c.code || !sameTree(got, want) {
			t.Errorf("InsertKid(%d, %d, %d) of %s = %s and %d, not %d", c.n, c.kid, c.at, treeText(c.x), treeText(got), code, c.code)
		}
	}
}

func TestInsertKidReturnsTheFirstCode(t *testing.T) {
	full := treeOf(0, 1, 2, 3, 0, 0)
	deep := measuredTree(full, 4)
	for _, c := range []struct {
		x    impl.Tree
		n    int
		kid  int
		at   int
		code int
	}{
		// The tree is not valid, and everything else is wrong too.
		{withStyle(full, 6, impl.Style{}), 1, 1, -1, codeNode},
		{withUp(full, 6, 9), 2, 1, 0, codeNode},
		{withTable(full, 6, true, impl.Table{}), 4, 5, 9, codeNode},
		{chain(5), 5, 5, 7, codeNode},
		{circle(2), 1, 1, 0, codeNode},
		{treeOf(make([]int, 13)...), 1, 1, 0, codeNode},
		{full, 0, 0, -1, codeNode},
		{full, 7, 7, 0, codeNode},
		{full, -1, -1, 0, codeNode},
		{deep, 4, 7, -1, codeNode},
		{deep, 0, 5, 9, codeNode},
		// A cycle, where it has a parent, at is wrong, it is Measured or it gets too deep.
		{full, 4, 1, 0, codeCycle},
		{full, 2, 2, 0, codeCycle},
		{full, 1, 1, -1, codeCycle},
		{full, 5, 5, 1, codeCycle},
		{full, 4, 2, math.MinInt, codeCycle},
		{deep, 4, 4, 0, codeCycle},
		{deep, 4, 1, 5, codeCycle},
		{deep, 4, 3, math.MaxInt, codeCycle},
		// A wrong place, where the node is Measured or it gets too deep.
		{full, 4, 5, 1, codePlace},
		{full, 4, 5, -1, codePlace},
		{treeOf(0, 1, 2, 3, 0, 5), 4, 6, 0, codePlace},
		{deep, 4, 5, 1, codePlace},
		{deep, 4, 5, -1, codePlace},
		{measuredTree(treeOf(0, 0, 2), 1), 1, 3, 0, codePlace},
		{measuredTree(treeOf(0, 1, 1), 2), 2, 3, 0, codePlace},
		// Measured, where it gets too deep.
		{deep, 4, 5, 0, codeTable},
		{measuredTree(treeOf(0, 0, 2, 3, 4), 1), 1, 2, 0, codeTable},
	} {
		if got, code := impl.InsertKid(c.x, c.n, c.kid, c.at); code != c.code || !sameTree(got, c.x) {
			t.Errorf("InsertKid(%d, %d, %d) of %s = %s and %d, not %d", c.n, c.kid, c.at, treeText(c.x), treeText(got), code, c.code)
		}
	}
}

func TestRemoveKid(t *testing.T) {
	three := withKids(treeOf(0, 1, 1, 1, 4, 0), 1, 4, 2, 3)
	for _, c := range []struct {
		x    impl.Tree
		n    int
		kid  int
		code int
		kids []int
	}{
		{chain(2), 1, 2, 0, nil},
		{backChain(2), 2, 1, 0, nil},
		{three, 1, 4, 0, []int{2, 3}},
		{three, 1, 2, 0, []int{4, 3}},
		{three, 1, 3, 0, []int{4, 2}},
		{three, 4, 5, 0, nil},
		// What is under it stays under it.
		{chain(4), 1, 2, 0, nil},
		{chain(4), 2, 3, 0, nil},
		{measuredTree(chain(3), 3), 2, 3, 0, nil},
		// Its parent, itself, a later descendant, a sibling and one of another tree are not its Kids.
		{three, 2, 1, codePlace, nil},
		{three, 1, 1, codePlace, nil},
		{three, 1, 5, codePlace, nil},
		{three, 2, 3, codePlace, nil},
		{three, 1, 6, codePlace, nil},
		{three, 6, 2, codePlace, nil},
		{treeOf(0, 0), 1, 2, codePlace, nil},
		{treeOf(0), 1, 1, codePlace, nil},
		// No such node.
		{three, 0, 2, codeNode, nil},
		{three, -1, 2, codeNode, nil},
		{three, 7, 2, codeNode, nil},
		{three, math.MinInt, 2, codeNode, nil},
		{three, math.MaxInt, 2, codeNode, nil},
		{three, 1, 0, codeNode, nil},
		{three, 1, -1, codeNode, nil},
		{three, 1, 7, codeNode, nil},
		{three, 1, math.MinInt, codeNode, nil},
		{three, 1, math.MaxInt, codeNode, nil},
		{three, 0, 0, codeNode, nil},
		// A root has no parent that 0 stands for.
		{three, 0, 1, codeNode, nil},
		{impl.Tree{}, 0, 0, codeNode, nil},
		{impl.Tree{}, 1, 1, codeNode, nil},
		// The tree is not valid.
		{chain(5), 1, 2, codeNode, nil},
		{chain(5), 2, 1, codeNode, nil},
		{circle(1), 1, 1, codeNode, nil},
		{circle(2), 1, 2, codeNode, nil},
		{withKids(chain(2), 1, 2, 2), 1, 2, codeNode, nil},
		{withKids(chain(2), 1), 1, 2, codeNode, nil},
		{withKids(treeOf(0, 0), 1, 2), 1, 2, codeNode, nil},
		{withStyle(chain(2), 2, impl.Style{}), 1, 2, codeNode, nil},
		{withTable(chain(2), 2, true, impl.Table{}), 1, 2, codeNode, nil},
		{withTable(chain(2), 1, true, roomTable(5)), 1, 2, codeNode, nil},
	} {
		got, code := impl.RemoveKid(c.x, c.n, c.kid)
		want := c.x
		if c.code == 0 {
			want = withUp(withKids(c.x, c.n, c.kids...), c.kid, 0)
		}
		if code != c.code || !sameTree(got, want) {
			t.Errorf("RemoveKid(%d, %d) of %s = %s and %d, not %d", c.n, c.kid, treeText(c.x), treeText(got), code, c.code)
		}
	}
}

// TestInsertAndRemoveAreInverse does one operation and then the other, for each kid of each valid tree.
func TestInsertAndRemoveAreInverse(t *testing.T) {
	for _, x := range append(validTrees(), everyTree(4)...) {
		for i, node := range x.Nodes {
			for at, kid := range node.Kids {
				without, first := impl.RemoveKid(x, i+1, kid)
				back, second := impl.InsertKid(without, i+1, kid, at)
				if first != 0 || second != 0 || !sameTree(back, x) || impl.DepthOf(without, kid) != 1 || impl.IsUnder(without, kid, i+1) {
					t.Errorf("%d out of %d of %s and back = %s, %d and %d", kid, i+1, treeText(x), treeText(back), first, second)
				}
			}
		}
	}
}

func TestSetStyle(t *testing.T) {
	x := measuredTree(treeOf(0, 1, 1), 3)
	for n := 1; n <= 3; n++ {
		for _, s := range validStyles() {
			if got, code := impl.SetStyle(x, n, s); code != 0 || !sameTree(got, withStyle(x, n, s)) {
				t.Errorf("SetStyle(%d, %+v) = %s and %d", n, s, treeText(got), code)
			}
		}
		for _, s := range []impl.Style{{}, evenStyle(math.MinInt, false), evenStyle(math.MaxInt, true), withField(impl.StyleNew(), "Shrink", -1)} {
			if got, code := impl.SetStyle(x, n, s); code != codeStyle || !sameTree(got, x) {
				t.Errorf("SetStyle(%d, %+v) = %s and %d", n, s, treeText(got), code)
			}
		}
	}
	// No such node, whether the style is valid or not.
	for _, n := range []int{math.MinInt, -1, 0, 4, 5, math.MaxInt} {
		for _, s := range []impl.Style{impl.StyleNew(), {}} {
			if got, code := impl.SetStyle(x, n, s); code != codeNode || !sameTree(got, x) {
				t.Errorf("SetStyle(%d) = %s and %d", n, treeText(got), code)
			}
		}
	}
	// A tree that is not valid stays so, even if the new style would make it valid.
	for _, s := range []impl.Style{impl.StyleNew(), {}} {
		wrong := withStyle(x, 2, impl.Style{})
		if got, code := impl.SetStyle(wrong, 2, s); code != codeNode || !sameTree(got, wrong) {
			t.Errorf("SetStyle of a tree that is not valid = %s and %d", treeText(got), code)
		}
	}
}

func TestSetTable(t *testing.T) {
	x := measuredTree(treeOf(0, 1, 1), 3)
	for _, c := range []struct {
		x    impl.Tree
		n    int
		with impl.Table
		code int
	}{
		// A node without Kids becomes Measured, also if it has a table already, and is so no longer without rules.
		{x, 2, roomTable(7), 0},
		{x, 3, roomTable(7), 0},
		{x, 3, roomTable(300, 3), 0},
		{x, 3, roomTable(60, 50, 40, 30, 20, 10), 0},
		{x, 2, impl.Table{}, 0},
		{x, 3, impl.Table{}, 0},
		{x, 3, table([]impl.Rule{}...), 0},
		{x, 2, table(impl.Rule{}), 0},
		// A node with Kids can only have a table without rules.
		{x, 1, impl.Table{}, 0},
		{x, 1, table([]impl.Rule{}...), 0},
		{x, 1, roomTable(7), codeTable},
		{x, 1, roomTable(-2), codeTable},
		{chain(4), 3, roomTable(7), codeTable},
		{chain(4), 4, roomTable(7), 0},
		// The table is not valid.
		{x, 2, roomTable(-2), codeTable},
		{x, 3, roomTable(impl.MaxLen + 1), codeTable},
		{x, 2, repeated(mostRules), 0},
		{x, 2, repeated(mostRules + 1), codeTable},
		{x, 2, table(rule(0, -1, 0)), codeTable},
		{x, 2, table(rule(0, 0, math.MaxInt)), codeTable},
		{x, 3, table(rule(math.MinInt, math.MinInt, math.MinInt)), codeTable},
		// No such node, whether the table is valid or not.
		{x, 0, roomTable(7), codeNode},
		{x, 4, roomTable(7), codeNode},
		{x, -1, impl.Table{}, codeNode},
		{x, 0, roomTable(-2), codeNode},
		{x, 4, roomTable(-2), codeNode},
		{x, math.MinInt, roomTable(-2), codeNode},
		{x, math.MaxInt, impl.Table{}, codeNode},
		{impl.Tree{}, 0, impl.Table{}, codeNode},
		{impl.Tree{}, 1, roomTable(7), codeNode},
		// A tree that is not valid stays so, even if the new table would make it valid.
		{withTable(x, 3, true, impl.Table{}), 3, roomTable(7), codeNode},
		{withTable(x, 3, false, roomTable(7)), 3, roomTable(7), codeNode},
		{withTable(x, 3, false, roomTable(7)), 3, impl.Table{}, codeNode},
		{withTable(x, 3, true, roomTable(-2)), 3, impl.Table{}, codeNode},
		{withTable(x, 1, true, roomTable(7)), 1, impl.Table{}, codeNode},
		{withTable(x, 1, true, roomTable(7)), 1, roomTable(-2), codeNode},
		{chain(5), 1, roomTable(-2), codeNode},
	} {
		got, code := impl.SetTable(c.x, c.n, c.with)
		want := c.x
		if c.code == 0 {
			want = withTable(c.x, c.n, len(c.with.Rules) > 0, c.with)
		}
		if code != c.code || !sameTree(got, want) {
			t.Errorf("SetTable(%d, %d) of %s = %s and %d, not %d", c.n, c.with, treeText(c.x), treeText(got), code, c.code)
		}
	}
}

func TestSetTableOfEachTable(t *testing.T) {
	for _, x := range append(validTrees(), wrongTrees()...) {
		for _, content := range edgeTables() {
			for _, n := range []int{-1, 0, 1, 2, 3, 4, mostNodes, mostNodes + 1} {
				checkCall(t, x, tableCall(n, content))
			}
		}
	}
}

// TestOperationsKeepAValidTreeValid is promise 10, for each operation around each small tree.
func TestOperationsKeepAValidTreeValid(t *testing.T) {
	for n := range 5 {
		calls := callsAround([]int{-1, 0, 1, 2, 3, 4, 5})
		for _, x := range everyTree(n) {
			var leaves []int
			for i, node := range x.Nodes {
				if len(node.Kids) == 0 {
					leaves = append(leaves, i+1)
				}
			}
			for _, y := range []impl.Tree{x, measuredTree(x, leaves...), measuredTree(x, leaves[:min(1, len(leaves))]...)} {
				for _, c := range calls {
					checkCall(t, y, c)
				}
			}
		}
	}
}

// TestInsertionsIntoTreesOfFiveNodes reaches trees that get too deep by each combination of a depth and a height.
func TestInsertionsIntoTreesOfFiveNodes(t *testing.T) {
	for _, x := range everyTree(5) {
		for n := 1; n <= 5; n++ {
			for kid := 1; kid <= 5; kid++ {
				for at := range len(x.Nodes[n-1].Kids) + 1 {
					checkCall(t, x, insertCall(n, kid, at))
				}
			}
		}
	}
}

func TestOperationsOnEachTree(t *testing.T) {
	calls := callsAround([]int{math.MinInt, -1, 0, 1, 2, 3, 4, 5, mostNodes, mostNodes + 1, math.MaxInt})
	for _, x := range append(validTrees(), wrongTrees()...) {
		for _, c := range calls {
			checkCall(t, x, c)
		}
	}
}

// TestLongRunsKeepTheTreeValid follows runs of operations that are rejected and not, in an order that looks random.
func TestLongRunsKeepTheTreeValid(t *testing.T) {
	for run := range 40 {
		x := impl.Tree{}
		seed := uint32(run)
		next := func(n int) int {
			seed = seed*1664525 + 1013904223
			return int(seed>>16) % n
		}
		for range 400 {
			n, kid, at := next(mostNodes+2), next(mostNodes+2), next(4)-1
			calls := []treeCall{
				insertCall(n, kid, at), insertCall(n, kid, at), insertCall(n, kid, 0), removeCall(n, kid),
				addCall(numberedStyle(next(100))), styleCall(n, numberedStyle(next(100))), tableCall(n, impl.Table{}),
				tableCall(n, roomTable(next(9)-2)),
			}
			// The Kids that there are have a better chance to be removed.
			if isNode(x, n) && len(x.Nodes[n-1].Kids) > 2 {
				calls = append(calls, removeCall(n, x.Nodes[n-1].Kids[1]))
			}
			x = checkCall(t, x, calls[next(len(calls))])
		}
	}
}

func TestTreesOfTheEndsOfInt(t *testing.T) {
	ends := []int{math.MinInt, math.MinInt + 1, math.MaxInt - 1, math.MaxInt}
	valid := measuredTree(treeOf(0, 1, 1), 3)
	trees := []impl.Tree{valid}
	for _, a := range ends {
		for _, b := range ends {
			trees = append(trees, treeOf(a, b), treeOf(0, a, b), withKids(treeOf(0, 0), 1, a, b), withKids(withUp(treeOf(0, 0), 2, a), 1, b))
		}
		trees = append(trees, withTable(valid, 3, true, table(rule(a, a, a))), withStyle(valid, 2, evenStyle(a, true)))
	}
	numbers := append(ends, 0, 1, 2, 3)
	calls := callsAround(numbers)
	for _, n := range numbers {
		for _, end := range ends {
			calls = append(calls, tableCall(n, table(rule(end, end, end))), styleCall(n, evenStyle(end, false)))
		}
	}
	for _, x := range trees {
		checkLooks(t, x, numbers)
		for _, c := range calls {
			checkCall(t, x, c)
		}
	}
}

// TestTreesLeaveArgumentsUnchanged looks at the spare capacity too, and at the addresses of what is returned.
func TestTreesLeaveArgumentsUnchanged(t *testing.T) {
	numbers := []int{-1, 0, 1, 2, 3, 4, mostNodes}
	calls := callsAround(numbers)
	for _, from := range append(validTrees(), wrongTrees()...) {
		x := roomy(from)
		before := wholeTree(x)
		for _, c := range calls {
			result, _ := c.do(x)
			checkMemory(t, c.name, result, x)
		}
		for _, n := range numbers {
			impl.TreeOk(x)
			impl.DepthOf(x, n)
			impl.IsUnder(x, n, 1)
		}
		if !sameTree(wholeTree(x), before) {
			t.Errorf("%s became %s", treeText(before), treeText(wholeTree(x)))
		}
	}
}

func checkMemory(t *testing.T, name string, result impl.Tree, arguments ...any) {
	t.Helper()
	if sharesMemory(result, arguments...) {
		t.Errorf("%s returns memory that is shared: %s", name, treeText(result))
	}
}

func TestSetTableLeavesTheTableUnchanged(t *testing.T) {
	for _, from := range append(validTrees(), wrongTrees()...) {
		for _, content := range edgeTables() {
			x, y := roomy(from), roomyTable(content)
			before, rules := wholeTree(x), wholeTable(y)
			for n := range 5 {
				result, _ := impl.SetTable(x, n, y)
				checkMemory(t, fmt.Sprintf("SetTable(%d)", n), result, x, y)
			}
			if !sameTree(wholeTree(x), before) || !slices.Equal(wholeTable(y).Rules, rules.Rules) {
				t.Errorf("%s and %d became %s and %d", treeText(before), rules, treeText(wholeTree(x)), wholeTable(y))
			}
		}
	}
}

// TestSlicesOfOneTreeShareNoMemory gives trees of which several slices are the same memory.
func TestSlicesOfOneTreeShareNoMemory(t *testing.T) {
	rules := roomTable(9, 5)
	content := measuredTree(treeOf(0, 1, 1, 0), 2, 3)
	content.Nodes[1].Table, content.Nodes[2].Table = rules, rules
	// The Kids of both nodes are in one list, one after the other.
	kids := []int{3, 4, 5}
	parts := treeOf(0, 0, 1, 1, 2)
	parts.Nodes[0].Kids, parts.Nodes[1].Kids = kids[:2], kids[2:]
	// Both nodes hold the same Kids, which is not valid.
	same := treeOf(0, 0, 1)
	same.Nodes[1].Kids = same.Nodes[0].Kids
	for _, x := range []impl.Tree{content, parts, same} {
		before := cloneTree(x)
		for _, c := range append(callsAround([]int{0, 1, 2, 3, 4, 5}), tableCall(4, rules), tableCall(2, rules), tableCall(1, rules)) {
			result, _ := c.do(x)
			checkMemory(t, c.name, result, x, rules)
			checkCall(t, x, c)
		}
		if !sameTree(x, before) {
			t.Errorf("%s became %s", treeText(before), treeText(x))
		}
	}
}

func TestEqualCallsShareNoMemory(t *testing.T) {
	x := measuredTree(treeOf(0, 1, 1, 0), 3)
	for _, c := range callsAround([]int{0, 1, 2, 3, 4}) {
		first, code := c.do(x)
		second, again := c.do(x)
		if code != again || !sameTree(first, second) {
			t.Errorf("%s = %s and %d, and then %s and %d", c.name, treeText(first), code, treeText(second), again)
		}
		checkMemory(t, c.name, first, second, x)
	}
}
