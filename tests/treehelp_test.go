package tests

import (
	"fmt"
	"math"
	"reflect"
	"slices"
	"strings"
	"testing"

	"loop.example/g00972/impl"
)

// The limits and codes of the node tree are stated in numbers, so that the tests share nothing with the constants of the program.
const (
	mostNodes = 12
	mostDepth = 4
	codeNode  = 1
	codeCycle = 2
	codePlace = 3
	codeStyle = 4
	codeTable = 6
	codeDeep  = 7
)

// numberedStyle is valid and differs from that of every other number.
func numberedStyle(n int) impl.Style {
	s := impl.StyleNew()
	s.Order, s.Width = n, point(n)
	return s
}

// treeOf has a node for each Up. Each existing parent has its Kids in ascending order, so that only the depths can be wrong.
func treeOf(ups ...int) impl.Tree {
	t := impl.Tree{Nodes: make([]impl.Node, len(ups))}
	for i, up := range ups {
		t.Nodes[i].Up, t.Nodes[i].Style = up, numberedStyle(i+1)
		if isNode(t, up) {
			t.Nodes[up-1].Kids = append(t.Nodes[up-1].Kids, i+1)
		}
	}
	return t
}

// chain has each node in the one before it, and backChain in the one after it.
func chain(n int) impl.Tree {
	ups := make([]int, n)
	for i := range ups {
		ups[i] = i
	}
	return treeOf(ups...)
}

func backChain(n int) impl.Tree {
	ups := make([]int, n)
	for i := range ups {
		ups[i] = (i + 2) % (n + 1)
	}
	return treeOf(ups...)
}

// circle has each node in the next one, and the last one in the first.
func circle(n int) impl.Tree {
	ups := make([]int, n)
	for i := range ups {
		ups[i] = (i+1)%n + 1
	}
	return treeOf(ups...)
}

func cloneNode(n impl.Node) impl.Node {
	n.Kids = slices.Clone(n.Kids)
	n.Table.Rules = slices.Clone(n.Table.Rules)
	return n
}

func cloneTree(t impl.Tree) impl.Tree {
	nodes := slices.Clone(t.Nodes)
	for i := range nodes {
		nodes[i] = cloneNode(nodes[i])
	}
	return impl.Tree{Nodes: nodes}
}

// withNode returns a copy of t in which one node is changed.
func withNode(t impl.Tree, n int, change func(*impl.Node)) impl.Tree {
	t = cloneTree(t)
	change(&t.Nodes[n-1])
	return t
}

func withUp(t impl.Tree, n int, up int) impl.Tree {
	return withNode(t, n, func(x *impl.Node) { x.Up = up })
}

func withKids(t impl.Tree, n int, kids ...int) impl.Tree {
	return withNode(t, n, func(x *impl.Node) { x.Kids = kids })
}

func withStyle(t impl.Tree, n int, s impl.Style) impl.Tree {
	return withNode(t, n, func(x *impl.Node) { x.Style = s })
}

func withTable(t impl.Tree, n int, measured bool, content impl.Table) impl.Tree {
	return withNode(t, n, func(x *impl.Node) {
		x.Measured, x.Table.Rules = measured, slices.Clone(content.Rules)
	})
}

// measuredTree is t with the nodes of these numbers Measured, each with another table.
func measuredTree(t impl.Tree, numbers ...int) impl.Tree {
	for _, n := range numbers {
		t = withTable(t, n, true, roomTable(100*n, n))
	}
	return t
}

func sameNode(a, b impl.Node) bool {
	return a.Up == b.Up && slices.Equal(a.Kids, b.Kids) && a.Style == b.Style &&
		a.Measured == b.Measured && slices.Equal(a.Table.Rules, b.Table.Rules)
}

// sameTree takes a nil slice and an empty slice as the same value.
func sameTree(a, b impl.Tree) bool {
	return slices.EqualFunc(a.Nodes, b.Nodes, sameNode)
}

// treeText leaves out the styles but for their numbers.
func treeText(t impl.Tree) string {
	var text []string
	for i, n := range t.Nodes {
		text = append(text, fmt.Sprintf("%d:up %d kids %d style %d table %v %d", i+1, n.Up, n.Kids, n.Style.Order, n.Measured, n.Table.Rules))
		if i > 20 {
			return fmt.Sprint(text, " of ", len(t.Nodes))
		}
	}
	return "[" + strings.Join(text, "; ") + "]"
}

func isNode(t impl.Tree, n int) bool { return n >= 1 && n <= len(t.Nodes) }

// wantWay returns what is reached from n by following Up, each number once, and whether it ends with a node without parent.
// A number that is no node can only be the last one.
func wantWay(t impl.Tree, n int) ([]int, bool) {
	var way []int
	met := map[int]bool{}
	for isNode(t, n) {
		n = t.Nodes[n-1].Up
		if n == 0 {
			return way, true
		}
		if met[n] {
			return way, false
		}
		met[n] = true
		way = append(way, n)
	}
	return way, false
}

func wantDepth(t impl.Tree, n int) int {
	if way, ends := wantWay(t, n); ends {
		return len(way) + 1
	}
	return 0
}

func wantUnder(t impl.Tree, n int, top int) bool {
	way, _ := wantWay(t, n)
	return isNode(t, top) && slices.Contains(way, top)
}

// wantTree follows the sentences of the document for TreeOk, one after another.
func wantTree(t impl.Tree) bool {
	if len(t.Nodes) > mostNodes {
		return false
	}
	for i, n := range t.Nodes {
		if !impl.StyleOk(n.Style) || !wantLinks(t, i+1) || !wantContent(n) {
			return false
		}
		if depth := wantDepth(t, i+1); depth < 1 || depth > mostDepth {
			return false
		}
	}
	return true
}

func wantLinks(t impl.Tree, n int) bool {
	for _, kid := range t.Nodes[n-1].Kids {
		if !isNode(t, kid) || t.Nodes[kid-1].Up != n {
			return false
		}
	}
	up := t.Nodes[n-1].Up
	if up == 0 {
		return true
	}
	if !isNode(t, up) {
		return false
	}
	others := slices.DeleteFunc(slices.Clone(t.Nodes[up-1].Kids), func(kid int) bool { return kid != n })
	return len(others) == 1
}

func wantContent(n impl.Node) bool {
	if n.Measured {
		return impl.TableOk(n.Table) && len(n.Kids) == 0
	}
	return len(n.Table.Rules) == 0
}

// changed returns the expected result of an operation that is not rejected.
func changed(t impl.Tree, change func(impl.Tree)) (impl.Tree, int) {
	t = cloneTree(t)
	change(t)
	return t, 0
}

func wantAdd(t impl.Tree, s impl.Style) (impl.Tree, int) {
	if !wantTree(t) || !impl.StyleOk(s) || len(t.Nodes) >= mostNodes {
		return t, 0
	}
	t = cloneTree(t)
	t.Nodes = append(t.Nodes, impl.Node{Style: s})
	return t, len(t.Nodes)
}

func wantInsert(t impl.Tree, n, kid, at int) (impl.Tree, int) {
	switch {
	case !wantTree(t) || !isNode(t, n) || !isNode(t, kid):
		return t, codeNode
	case kid == n || wantUnder(t, n, kid):
		return t, codeCycle
	case t.Nodes[kid-1].Up != 0 || at < 0 || at > len(t.Nodes[n-1].Kids):
		return t, codePlace
	case t.Nodes[n-1].Measured:
		return t, codeTable
	}
	next, code := changed(t, func(t impl.Tree) {
		t.Nodes[kid-1].Up = n
		t.Nodes[n-1].Kids = slices.Insert(t.Nodes[n-1].Kids, at, kid)
	})
	for i := range next.Nodes {
		if wantDepth(next, i+1) > mostDepth {
			return t, codeDeep
		}
	}
	return next, code
}

func wantRemove(t impl.Tree, n, kid int) (impl.Tree, int) {
	if !wantTree(t) || !isNode(t, n) || !isNode(t, kid) {
		return t, codeNode
	}
	if !slices.Contains(t.Nodes[n-1].Kids, kid) {
		return t, codePlace
	}
	return changed(t, func(t impl.Tree) {
		t.Nodes[kid-1].Up = 0
		t.Nodes[n-1].Kids = slices.DeleteFunc(t.Nodes[n-1].Kids, func(k int) bool { return k == kid })
	})
}

func wantSetStyle(t impl.Tree, n int, s impl.Style) (impl.Tree, int) {
	if !wantTree(t) || !isNode(t, n) {
		return t, codeNode
	}
	if !impl.StyleOk(s) {
		return t, codeStyle
	}
	return changed(t, func(t impl.Tree) { t.Nodes[n-1].Style = s })
}

func wantSetTable(t impl.Tree, n int, x impl.Table) (impl.Tree, int) {
	if !wantTree(t) || !isNode(t, n) {
		return t, codeNode
	}
	if len(x.Rules) > 0 && (!impl.TableOk(x) || len(t.Nodes[n-1].Kids) > 0) {
		return t, codeTable
	}
	return changed(t, func(t impl.Tree) {
		t.Nodes[n-1].Table.Rules = slices.Clone(x.Rules)
		t.Nodes[n-1].Measured = len(x.Rules) > 0
	})
}

// A treeCall is one call of an operation, with what the document requires of it.
type treeCall struct {
	name string
	do   func(impl.Tree) (impl.Tree, int)
	want func(impl.Tree) (impl.Tree, int)
}

func addCall(s impl.Style) treeCall {
	return treeCall{
		fmt.Sprintf("AddNode of the style %d", s.Order),
		func(t impl.Tree) (impl.Tree, int) { return impl.AddNode(t, s) },
		func(t impl.Tree) (impl.Tree, int) { return wantAdd(t, s) },
	}
}

func insertCall(n, kid, at int) treeCall {
	return treeCall{
		fmt.Sprintf("InsertKid(%d, %d, %d)", n, kid, at),
		func(t impl.Tree) (impl.Tree, int) { return impl.InsertKid(t, n, kid, at) },
		func(t impl.Tree) (impl.Tree, int) { return wantInsert(t, n, kid, at) },
	}
}

func removeCall(n, kid int) treeCall {
	return treeCall{
		fmt.Sprintf("RemoveKid(%d, %d)", n, kid),
		func(t impl.Tree) (impl.Tree, int) { return impl.RemoveKid(t, n, kid) },
		func(t impl.Tree) (impl.Tree, int) { return wantRemove(t, n, kid) },
	}
}

func styleCall(n int, s impl.Style) treeCall {
	return treeCall{
		fmt.Sprintf("SetStyle(%d) of the style %d", n, s.Order),
		func(t impl.Tree) (impl.Tree, int) { return impl.SetStyle(t, n, s) },
		func(t impl.Tree) (impl.Tree, int) { return wantSetStyle(t, n, s) },
	}
}

func tableCall(n int, x impl.Table) treeCall {
	return treeCall{
		fmt.Sprintf("SetTable(%d, %d)", n, x.Rules),
		func(t impl.Tree) (impl.Tree, int) { return impl.SetTable(t, n, x) },
		func(t impl.Tree) (impl.Tree, int) { return wantSetTable(t, n, x) },
	}
}

// checkCall compares a call with the document, and a result of a valid tree with promise 10.
func checkCall(t *testing.T, x impl.Tree, c treeCall) impl.Tree {
	t.Helper()
	got, code := c.do(x)
	want, wanted := c.want(x)
	if code != wanted || !sameTree(got, want) {
		t.Errorf("%s of %s = %s and %d, not %s and %d", c.name, treeText(x), treeText(got), code, treeText(want), wanted)
	}
	if wantTree(x) && (!wantTree(got) || !impl.TreeOk(got)) {
		t.Errorf("%s of %s = %s, which is not valid", c.name, treeText(x), treeText(got))
	}
	return got
}

// checkLooks compares the functions that return no tree with the document.
func checkLooks(t *testing.T, x impl.Tree, numbers []int) {
	t.Helper()
	if got := impl.TreeOk(x); got != wantTree(x) {
		t.Errorf("TreeOk of %s = %v", treeText(x), got)
	}
	for _, n := range numbers {
		if got := impl.DepthOf(x, n); got != wantDepth(x, n) {
			t.Errorf("DepthOf(%d) of %s = %d", n, treeText(x), got)
		}
		for _, top := range numbers {
			if got := impl.IsUnder(x, n, top); got != wantUnder(x, n, top) {
				t.Errorf("IsUnder(%d, %d) of %s = %v", n, top, treeText(x), got)
			}
		}
	}
}

// callsAround holds calls of every operation with each of the numbers for each argument.
func callsAround(numbers []int) []treeCall {
	list := []treeCall{addCall(numberedStyle(77)), addCall(impl.Style{})}
	for _, n := range numbers {
		list = append(list, styleCall(n, numberedStyle(77)), styleCall(n, impl.Style{}))
		list = append(list, tableCall(n, impl.Table{}), tableCall(n, roomTable(7, 3)), tableCall(n, roomTable(-2)))
		for _, kid := range numbers {
			list = append(list, removeCall(n, kid))
			for _, at := range numbers {
				list = append(list, insertCall(n, kid, at))
			}
		}
	}
	return list
}

// nodeNumbers holds every number of a node, those just outside, numbers with the lowest bits of one, and the ends of int.
func nodeNumbers() []int {
	list := choiceNumbers()
	for n := 9; n <= mostNodes+3; n++ {
		list = append(list, n)
	}
	return append(list, math.MinInt+mostNodes, 1<<32+mostNodes)
}

// everyTree holds each valid tree of n nodes that are not Measured.
func everyTree(n int) []impl.Tree {
	list := []impl.Tree{treeOf(make([]int, n)...)}
	known := map[string]bool{treeText(list[0]): true}
	for i := 0; i < len(list); i++ {
		for parent := 1; parent <= n; parent++ {
			for kid := 1; kid <= n; kid++ {
				for at := range n {
					next, code := wantInsert(list[i], parent, kid, at)
					if code == 0 && !known[treeText(next)] {
						known[treeText(next)] = true
						list = append(list, next)
					}
				}
			}
		}
	}
	return list
}

// validTrees holds trees of many shapes, with Kids in several orders, up to the limits.
func validTrees() []impl.Tree {
	star := treeOf(0, 1, 1, 1, 1, 1, 1, 1, 1, 1, 1, 1)
	return []impl.Tree{
		{}, {Nodes: []impl.Node{}}, treeOf(0), treeOf(0, 0), treeOf(0, 1), treeOf(2, 0),
		treeOf(0, 1, 1), withKids(treeOf(0, 1, 1), 1, 3, 2), withKids(treeOf(0, 1, 1, 1), 1, 4, 2, 3),
		chain(2), chain(3), chain(mostDepth), backChain(3), backChain(mostDepth),
		treeOf(make([]int, mostNodes-1)...), treeOf(make([]int, mostNodes)...), star, withKids(star, 1, 12, 2, 11, 3, 10, 4, 9, 5, 8, 6, 7),
		treeOf(0, 1, 2, 3, 0, 5, 6, 7, 0, 9, 10, 11), treeOf(0, 1, 1, 2, 2, 3, 3, 4, 4, 5, 5, 6), treeOf(12, 12, 1, 1, 3, 3, 2, 2, 7, 7, 0, 0),
		treeOf(0, 1, 2, 3, 0), treeOf(0, 1, 2, 0, 4), treeOf(0, 1, 0, 3, 3, 5), withKids(treeOf(0, 1, 0, 3, 3, 5), 3, 5, 4),
		measuredTree(treeOf(0), 1), measuredTree(treeOf(0, 1, 1), 3), measuredTree(treeOf(0, 1, 0), 2, 3), measuredTree(chain(mostDepth), mostDepth),
		measuredTree(star, 2, 7, 12), withTable(treeOf(0, 1), 2, true, repeated(mostRules)), withStyle(treeOf(0, 1), 2, fullStyle()),
	}
}

// wrongTrees holds trees that are not valid, most of them for one reason alone.
func wrongTrees() []impl.Tree {
	list := []impl.Tree{
		treeOf(make([]int, mostNodes+1)...), treeOf(make([]int, 300)...), treeOf(0, 1, 2, 3, 0, 5, 6, 7, 0, 9, 10, 11, 9),
		chain(mostDepth + 1), backChain(mostDepth + 1), chain(mostNodes), chain(300), treeOf(0, 1, 1, 2, 4, 5),
		circle(1), circle(2), circle(3), circle(mostDepth), circle(mostDepth + 1), circle(mostNodes), circle(300),
		treeOf(2, 3, 2), treeOf(0, 3, 2), treeOf(0, 1, 3), treeOf(2, 3, 4, 5, 3, 0),
		withKids(chain(2), 1), withKids(chain(2), 1, 2, 2), withKids(treeOf(0, 1, 1), 1, 3, 2, 3), withKids(treeOf(0, 1, 1), 1, 2, 2),
		withKids(treeOf(0, 1, 0), 3, 2), withKids(withKids(treeOf(0, 1, 0), 3, 2), 1), withKids(treeOf(0, 0), 1, 2), withKids(treeOf(0, 0), 1, 1),
		withUp(withKids(treeOf(0, 0, 0), 1, 3), 3, 2), withKids(chain(3), 1, 2, 3), withKids(chain(3), 3, 1), withKids(chain(3), 2, 3, 1),
		withKids(treeOf(0), 1, make([]int, 300)...), withUp(treeOf(0, 0), 1, 2), withUp(treeOf(0, 0), 2, 1),
		measuredTree(treeOf(0, 1), 1), withTable(treeOf(0, 1), 2, true, impl.Table{}), withTable(treeOf(0, 1), 2, false, roomTable(5)),
		withTable(treeOf(0, 1), 2, true, roomTable(-2)), withTable(treeOf(0, 1), 2, true, repeated(mostRules+1)), withTable(treeOf(0, 1), 1, false, roomTable(5)),
		withStyle(treeOf(0, 1), 1, impl.Style{}), withStyle(treeOf(0, 1), 2, impl.Style{}), withStyle(treeOf(0), 1, evenStyle(-1, true)),
	}
	for _, n := range []int{math.MinInt, math.MinInt + 1, -7, -1, 3, 4, mostNodes, mostNodes + 1, math.MaxInt - 1, math.MaxInt} {
		list = append(list, treeOf(0, n), treeOf(n, 1), withUp(treeOf(0, 1), 2, n), withKids(treeOf(0, 1), 2, n), withKids(treeOf(0, 1), 1, 2, n))
	}
	return append(list, withKids(treeOf(0, 1), 1, 0, 2), withKids(treeOf(0, 1), 1, 0))
}

// roomy returns a copy of t in which every slice has spare capacity that is not zero.
func roomy(t impl.Tree) impl.Tree {
	t = cloneTree(t)
	spare := measuredTree(treeOf(0, 1), 2).Nodes
	nodes := append(t.Nodes, spare...)
	for i := range nodes {
		kids, rules := nodes[i].Kids, nodes[i].Table.Rules
		nodes[i].Kids = append(slices.Clone(kids), 91, 92)[:len(kids)]
		nodes[i].Table.Rules = roomyTable(impl.Table{Rules: rules}).Rules
	}
	return impl.Tree{Nodes: nodes[:len(t.Nodes)]}
}

func roomyTable(x impl.Table) impl.Table {
	return impl.Table{Rules: append(slices.Clone(x.Rules), rule(93, 94, 95), rule(96, 97, 98))[:len(x.Rules)]}
}

// wholeTree returns a copy of t with the spare capacity of its slices, and the one behind those, as elements.
func wholeTree(t impl.Tree) impl.Tree {
	nodes := slices.Clone(t.Nodes[:cap(t.Nodes)])
	for i, n := range nodes {
		nodes[i].Kids = slices.Clone(n.Kids[:cap(n.Kids)])
		nodes[i].Table = wholeTable(n.Table)
	}
	return impl.Tree{Nodes: nodes}
}

func wholeTable(x impl.Table) impl.Table {
	return impl.Table{Rules: slices.Clone(x.Rules[:cap(x.Rules)])}
}

// A stretch is the memory of one slice with its spare capacity.
type stretch struct{ from, to uintptr }

func (s stretch) meets(other stretch) bool { return s.from < other.to && other.from < s.to }

// stretchesOf returns the memory of every slice in v, and of those in the spare capacity too.
func stretchesOf(v reflect.Value) []stretch {
	var list []stretch
	switch v.Kind() {
	case reflect.Struct:
		for i := range v.NumField() {
			list = append(list, stretchesOf(v.Field(i))...)
		}
	case reflect.Slice:
		if v.Cap() == 0 {
			return nil
		}
		list = append(list, stretch{v.Pointer(), v.Pointer() + uintptr(v.Cap())*v.Type().Elem().Size()})
		for i := range v.Cap() {
			list = append(list, stretchesOf(v.Slice(0, v.Cap()).Index(i))...)
		}
	}
	return list
}

// sharesMemory reports whether a slice in the result meets another one in it or one in an argument.
func sharesMemory(result any, arguments ...any) bool {
	own := stretchesOf(reflect.ValueOf(result))
	var others []stretch
	for _, a := range arguments {
		others = append(others, stretchesOf(reflect.ValueOf(a))...)
	}
	for i, s := range own {
		if slices.ContainsFunc(own[i+1:], s.meets) || slices.ContainsFunc(others, s.meets) {
			return true
		}
	}
	return false
}
