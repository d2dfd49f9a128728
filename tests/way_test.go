package tests

import (
	"fmt"
	"slices"
	"testing"

	"loop.example/g00796/impl"
)

// halved is twoLevels with its second leaf halved, of which the root is not told; node 3 has the upper half.
func halved() impl.Tree {
	return treeOf(2,
		impl.Node{Pairs: []impl.Pair{pair(1, 40), pair(5, 999)}, High: 9, Right: 1},
		impl.Node{Pairs: []impl.Pair{pair(9, 3), pair(12, 120), pair(20, 200)}, High: 30, Right: 3, Owner: 4},
		endInner(1, pair(0, 0), pair(9, 1)),
		endLeaf(pair(30, 300), pair(99, 990)))
}

// halvedRoot is halved with its root halved too, of which nobody is told: Root is still the lower half.
func halvedRoot() impl.Tree {
	tree := halved()
	tree.Nodes[2] = impl.Node{Level: 1, Pairs: []impl.Pair{pair(0, 0)}, High: 9, Right: 4}
	tree.Nodes = append(tree.Nodes, endInner(1, pair(9, 1), pair(30, 3)))
	return tree
}

// backToRoot is a root above a leaf from which keys from 50 on go back to it.
func backToRoot() impl.Tree {
	return treeOf(1,
		impl.Node{Pairs: []impl.Pair{pair(3, 30), pair(49, 490)}, High: 50, Right: 1},
		endInner(2, pair(10, 0)))
}

// longWay goes by each of MaxNodes nodes to the last leaf: twenty times to the right, six down, and thirteen to the right.
func longWay() impl.Tree {
	tree := impl.Tree{}
	for at := range int64(impl.MaxNodes) {
		n := linkTo(endLeaf(), at+1)
		n.High = 1 + at
		if at < 26 {
			n = withPairs(withLevel(n, 26-max(at, 20)), pair(0, at+1))
		}
		if 20 <= at && at < 26 {
			n = last(n)
		}
		tree.Nodes = append(tree.Nodes, n)
	}
	tree.Nodes[impl.MaxNodes-1] = endLeaf(pair(0, 5), pair(98, 980))
	return tree
}

// wayTrees are right trees, with ways that come to a leaf and ways that do not.
func wayTrees() map[string]impl.Tree {
	trees := map[string]impl.Tree{
		"halved":       halved(),
		"halved root":  halvedRoot(),
		"back to root": backToRoot(),
		"long way":     longWay(),
	}
	for what, c := range rightTrees() {
		trees[what] = c.tree
	}
	return trees
}

type way struct{ to, by int64 }

func wantWay(t *testing.T, what string, tree impl.Tree, at, key, want int64, wanted way) {
	t.Helper()
	if to, by := impl.NextOf(tree, at, key, want); (way{to, by}) != wanted {
		t.Fatalf("%s: NextOf(%d, %d, %d) of %+v is %d, %d, want %v", what, at, key, want, tree, to, by, wanted)
	}
}

// wantedWay asks chapter 2 about the node.
func wantedWay(tree impl.Tree, at, key, want int64) way {
	if at < 0 || at >= int64(len(tree.Nodes)) || key < 0 || key > 99 {
		return way{-1, 0}
	}
	n := tree.Nodes[at]
	if !impl.Within(n, key) {
		return way{n.Right, 1}
	}
	if n.Level > 0 && n.Level > want {
		return way{impl.KidFor(n, key), 2}
	}
	if n.Level != want {
		return way{-1, 0}
	}
	return way{at, 3}
}

// wantedLeaf goes on until it comes to a leaf, or to where it was.
func wantedLeaf(tree impl.Tree, key int64) int64 {
	been := map[int64]bool{}
	for at := tree.Root; !been[at]; {
		been[at] = true
		next := wantedWay(tree, at, key, 0)
		if next.by == 3 {
			return at
		}
		at = next.to
		if at == -1 {
			return -1
		}
	}
	return -1
}

// wantLeaf asks LeafOf and Found.
func wantLeaf(t *testing.T, what string, tree impl.Tree, key, leaf int64) {
	t.Helper()
	if got := impl.LeafOf(tree, key); got != leaf {
		t.Fatalf("%s: LeafOf key %d of %+v is %d, want %d", what, key, tree, got, leaf)
	}
	book := map[int64]int64{}
	if leaf != -1 {
		book = bookOf(tree.Nodes[leaf].Pairs)
	}
	value, there := book[key]
	if got, is := impl.Found(tree, key); got != value || is != there {
		t.Fatalf("%s: Found key %d of %+v: %d, %v, want %d, %v", what, key, tree, got, is, value, there)
	}
}

func TestNumbersOfWays(t *testing.T) {
	if impl.WyNone != 0 || impl.WyRight != 1 || impl.WyDown != 2 || impl.WyHere != 3 {
		t.Fatal(impl.WyNone, impl.WyRight, impl.WyDown, impl.WyHere)
	}
}

func TestNextOfByHand(t *testing.T) {
	none := way{-1, impl.WyNone}
	cases := []struct {
		what          string
		tree          impl.Tree
		at, key, want int64
		wanted        way
	}{
		{"new", impl.NewTree(), 0, 0, 0, way{0, impl.WyHere}},
		{"new, key 99", impl.NewTree(), 0, 99, 0, way{0, impl.WyHere}},
		{"new, key 100", impl.NewTree(), 0, 100, 0, none},
		{"new, key -1", impl.NewTree(), 0, -1, 0, none},
		{"new, node 1", impl.NewTree(), 1, 5, 0, none},
		{"new, node -1", impl.NewTree(), -1, 5, 0, none},
		{"new, want 1", impl.NewTree(), 0, 5, 1, none},
		{"new, want -1", impl.NewTree(), 0, 5, -1, none},
		{"root, first kid", halved(), 2, 8, 0, way{0, impl.WyDown}},
		{"root, second kid", halved(), 2, 9, 0, way{1, impl.WyDown}},
		{"root, who is not told", halved(), 2, 30, 0, way{1, impl.WyDown}},
		{"halved leaf, its last key", halved(), 1, 29, 0, way{1, impl.WyHere}},
		{"halved leaf, High", halved(), 1, 30, 0, way{3, impl.WyRight}},
		{"halved leaf, more than High", halved(), 1, 31, 0, way{3, impl.WyRight}},
		{"upper half", halved(), 3, 30, 0, way{3, impl.WyHere}},
		{"upper half, a key to its left", halved(), 3, 2, 0, way{3, impl.WyHere}},
		{"halved root, its own", halvedRoot(), 2, 8, 0, way{0, impl.WyDown}},
		{"halved root, High", halvedRoot(), 2, 9, 0, way{4, impl.WyRight}},
		{"halved root, High, want 1", halvedRoot(), 2, 9, 1, way{4, impl.WyRight}},
		{"halved root, High, want 6", halvedRoot(), 2, 9, 6, way{4, impl.WyRight}},
		{"upper root, want 1", halvedRoot(), 4, 9, 1, way{4, impl.WyHere}},
		{"upper root, less than its first key", halvedRoot(), 4, 8, 0, way{1, impl.WyDown}},
		{"root, want its level", threeLevels(), 4, 50, 2, way{4, impl.WyHere}},
		{"root, want one less", threeLevels(), 4, 50, 1, way{2, impl.WyDown}},
		{"root, want 0", threeLevels(), 4, 39, 0, way{6, impl.WyDown}},
		{"root, want -1", threeLevels(), 4, 50, -1, way{2, impl.WyDown}},
		{"root, want one more", threeLevels(), 4, 50, 3, none},
		{"leaf, want -1", threeLevels(), 3, 50, -1, none},
		{"leaf, want the least", threeLevels(), 3, 50, least, none},
		{"leaf, to the right, want -1", threeLevels(), 0, 70, -1, way{3, impl.WyRight}},
		{"leaf, to the right, want 9", threeLevels(), 0, 99, 9, way{3, impl.WyRight}},
		{"leaf, key past the last, to the right", threeLevels(), 0, 100, 0, none},
		{"last node", threeLevels(), 7, 39, 0, way{7, impl.WyHere}},
		{"one past the last node", threeLevels(), 8, 39, 0, none},
		{"down, less than the first key", backToRoot(), 1, 0, 0, way{0, impl.WyDown}},
		{"down, less than the first key, want 1", backToRoot(), 1, 9, 1, way{0, impl.WyDown}},
		{"a kid that is too low", backToRoot(), 0, 9, 1, none},
		{"back", backToRoot(), 0, 50, 0, way{1, impl.WyRight}},
	}
	for _, c := range cases {
		wantWay(t, c.what, c.tree, c.at, c.key, c.want, c.wanted)
	}
}

func TestLeafOfByHand(t *testing.T) {
	cases := []struct {
		what   string
		tree   impl.Tree
		leaves map[int64]int64
	}{
		{"new", impl.NewTree(), map[int64]int64{0: 0, 50: 0, 99: 0}},
		{"two levels", twoLevels(), map[int64]int64{0: 0, 1: 0, 8: 0, 9: 1, 10: 1, 99: 1}},
		{"three levels", threeLevels(), map[int64]int64{
			0: 1, 9: 1, 10: 5, 29: 5, 30: 7, 39: 7, 40: 0, 69: 0, 70: 3, 99: 3}},
		{"halved", halved(), map[int64]int64{0: 0, 8: 0, 9: 1, 29: 1, 30: 3, 99: 3}},
		{"halved root", halvedRoot(), map[int64]int64{0: 0, 8: 0, 9: 1, 29: 1, 30: 3, 99: 3}},
		{"back to root", backToRoot(), map[int64]int64{0: 0, 9: 0, 10: 0, 49: 0, 50: -1, 51: -1, 99: -1}},
		{"long way", longWay(), map[int64]int64{40: 39, 98: 39, 99: 39}},
		{"no leaf below", treeOf(0, endInner(1, pair(0, 0))), map[int64]int64{0: -1, 99: -1}},
	}
	for _, c := range cases {
		for key, leaf := range c.leaves {
			wantLeaf(t, c.what, c.tree, key, leaf)
		}
		for _, key := range []int64{least, -2, -1, impl.MaxKey + 1, impl.MaxKey + 2, most} {
			wantLeaf(t, c.what, c.tree, key, -1)
		}
	}
}

func TestFoundByHand(t *testing.T) {
	cases := []struct {
		what string
		tree impl.Tree
		book map[int64]int64
	}{
		{"new", impl.NewTree(), map[int64]int64{}},
		{"both ends", treeOf(0, endLeaf(pair(0, 0), pair(99, 999))), map[int64]int64{0: 0, 99: 999}},
		{"two levels", twoLevels(), map[int64]int64{1: 40, 5: 999, 9: 3}},
		{"three levels", threeLevels(), map[int64]int64{3: 30, 30: 300, 39: 390, 50: 500, 70: 700}},
		{"halved", halved(), map[int64]int64{1: 40, 5: 999, 9: 3, 12: 120, 20: 200, 30: 300, 99: 990}},
		{"halved root", halvedRoot(), map[int64]int64{1: 40, 5: 999, 9: 3, 12: 120, 20: 200, 30: 300, 99: 990}},
		{"back to root", backToRoot(), map[int64]int64{3: 30, 49: 490}},
		{"long way", longWay(), map[int64]int64{98: 980}},
	}
	for _, c := range cases {
		for _, key := range askedKeys() {
			want, there := c.book[key]
			if got, is := impl.Found(c.tree, key); got != want || is != there {
				t.Errorf("%s: key %d: %d, %v, want %d, %v", c.what, key, got, is, want, there)
			}
		}
	}
}

// TestNextOf asks each node, and numbers of none, for all keys and wants.
func TestNextOf(t *testing.T) {
	for what, tree := range wayTrees() {
		for _, at := range askedNodes(tree) {
			for _, key := range askedKeys() {
				for _, want := range askedLevels() {
					wantWay(t, what, tree, at, key, want, wantedWay(tree, at, key, want))
				}
			}
		}
	}
}

func TestLeafOfAndFound(t *testing.T) {
	for what, tree := range wayTrees() {
		for _, key := range askedKeys() {
			leaf := int64(-1)
			if key >= 0 && key <= 99 {
				leaf = wantedLeaf(tree, key)
			}
			wantLeaf(t, what, tree, key, leaf)
		}
	}
}

// TestAboutHigh tries each High: one key less is here, it and more are to the right.
func TestAboutHigh(t *testing.T) {
	for high := int64(1); high <= impl.MaxKey+1; high++ {
		for level := range int64(impl.MaxLevel + 1) {
			n := impl.Node{Level: level, Pairs: []impl.Pair{pair(0, 1)}, High: high, Right: 1}
			tree := treeOf(0, n, endLeaf())
			wantWay(t, "less", tree, 0, high-1, level, way{0, impl.WyHere})
			for key := high; key <= impl.MaxKey; key++ {
				wantWay(t, "High or more", tree, 0, key, level, way{1, impl.WyRight})
				wantLeaf(t, "to the right", tree, key, 1)
			}
			wantWay(t, "no key", tree, 0, impl.MaxKey+1, level, way{-1, impl.WyNone})
			wantWay(t, "no key", tree, 0, -1, level, way{-1, impl.WyNone})
		}
	}
}

// TestLevelsAndWants tries each want beside each Level, in a tree with one node of each.
func TestLevelsAndWants(t *testing.T) {
	tree := tallTree()
	for at := range int64(impl.MaxLevel + 1) {
		level := impl.MaxLevel - at
		for want := int64(-3); want <= impl.MaxLevel+3; want++ {
			wanted := way{-1, impl.WyNone}
			if want == level {
				wanted = way{at, impl.WyHere}
			} else if want < level && level > 0 {
				wanted = way{at + 1, impl.WyDown}
			}
			wantWay(t, "all levels", tree, at, 42, want, wanted)
		}
	}
	wantLeaf(t, "all levels", tree, 42, impl.MaxLevel)
}

// TestLongestWays: a way may go by all nodes that there can be, each once.
func TestLongestWays(t *testing.T) {
	row := leavesInARow(impl.MaxNodes)
	slices.Reverse(row)
	for at := range row {
		if row[at].Right != -1 {
			row[at].Right = impl.MaxNodes - 1 - row[at].Right
		}
	}
	trees := map[string]impl.Tree{
		"to the right":    treeOf(0, leavesInARow(impl.MaxNodes)...),
		"back in numbers": treeOf(impl.MaxNodes-1, row...),
		"and down":        longWay(),
	}
	for what, tree := range trees {
		at, steps := tree.Root, 0
		for by := int64(impl.WyNone); by != impl.WyHere && steps < 100; steps++ {
			at, by = impl.NextOf(tree, at, 99, 0)
		}
		if steps != impl.MaxNodes {
			t.Fatalf("%s: %d steps", what, steps)
		}
		wantLeaf(t, what, tree, 99, at)
	}
}

// TestWaysThatGoRound: where a way comes to no leaf there is none, whatever it goes round by.
func TestWaysThatGoRound(t *testing.T) {
	ring := leavesInARow(impl.MaxNodes)
	ring[impl.MaxNodes-1].High, ring[impl.MaxNodes-1].Right = impl.MaxNodes, 0
	stairs := tallTree()
	stairs.Nodes[impl.MaxLevel] = impl.Node{High: 42, Right: 0}
	trees := map[string]impl.Tree{
		"one leaf":          treeOf(0, impl.Node{High: 42, Right: 0}),
		"all leaves":        treeOf(7, ring...),
		"an inner node":     treeOf(0, endInner(6, pair(0, 0))),
		"two inner nodes":   treeOf(0, endInner(1, pair(0, 1)), endInner(1, pair(0, 0))),
		"to the right":      treeOf(0, impl.Node{Level: 1, Pairs: []impl.Pair{pair(0, 1)}, High: 9, Right: 0}, endLeaf()),
		"down and back":     backToRoot(),
		"through all":       stairs,
		"up again":          treeOf(0, endInner(1, pair(0, 1)), endInner(5, pair(0, 0)), endLeaf()),
		"behind some steps": treeOf(1, endInner(2, pair(0, 0)), linkTo(endInner(3, pair(5, 2)), 0), endInner(2, pair(1, 0))),
	}
	for what, tree := range trees {
		if !impl.TreeOk(tree) {
			t.Fatalf("%s: refused", what)
		}
		for key := int64(50); key <= impl.MaxKey; key++ {
			wantLeaf(t, what, tree, key, -1)
		}
	}
}

// drawnSound is a tree whose rows are as they should be, though some nodes are not told of above, nor always those beside the Root; and its leaves by their keys.
func drawnSound(draw func(int64) int64) (impl.Tree, []impl.Node) {
	row := drawnLeaves(draw)
	levels := [][]impl.Node{row}
	count := int64(0)
	for level := int64(1); len(row) > 1 && draw(6) > 0; level++ {
		row = drawnAbove(draw, row, level, count)
		count += int64(len(levels[level-1]))
		levels = append(levels, row)
	}
	tree := impl.Tree{Root: count}
	for _, row := range levels {
		first := int64(len(tree.Nodes))
		for i, n := range row {
			if n.High != -1 {
				n.Right = first + int64(i) + 1
			}
			tree.Nodes = append(tree.Nodes, n)
		}
	}
	return renumbered(draw, tree), levels[0]
}

// drawnLeaves are up to twelve leaves with pairs between their lows and Highs.
func drawnLeaves(draw func(int64) int64) []impl.Node {
	row := []impl.Node{}
	low := int64(0)
	for range draw(12) {
		high := low + 1 + draw(15)
		if high > impl.MaxKey {
			break
		}
		row = append(row, drawnLeaf(draw, low, high))
		low = high
	}
	return append(row, last(drawnLeaf(draw, low, impl.MaxKey+1)))
}

func drawnLeaf(draw func(int64) int64, low, high int64) impl.Node {
	n := impl.Node{High: high}
	for key := low; key < high && len(n.Pairs) < impl.Fan; key++ {
		if draw(3) == 0 {
			n.Pairs = append(n.Pairs, pair(key, draw(1000)))
		}
	}
	return n
}

// drawnAbove is a row over that one, whose first node has the number first; some nodes of it are not told of.
func drawnAbove(draw func(int64) int64, below []impl.Node, level, first int64) []impl.Node {
	row := []impl.Node{endInner(level)}
	low := int64(0)
	for i, n := range below {
		if i == 0 || draw(3) > 0 {
			here := &row[len(row)-1]
			if i > 0 && (len(here.Pairs) == impl.Fan || draw(3) == 0) {
				here.High = low
				row = append(row, endInner(level))
				here = &row[len(row)-1]
			}
			here.Pairs = append(here.Pairs, pair(low, first+int64(i)))
		}
		low = n.High
	}
	return row
}

// renumbered is the tree with its nodes in a drawn order.
func renumbered(draw func(int64) int64, tree impl.Tree) impl.Tree {
	numbers := upTo(int64(len(tree.Nodes)))
	for i := range numbers {
		k := draw(int64(len(numbers)))
		numbers[i], numbers[k] = numbers[k], numbers[i]
	}
	mixed := impl.Tree{Root: numbers[tree.Root], Nodes: make([]impl.Node, len(tree.Nodes))}
	for at, n := range tree.Nodes {
		if n.Right != -1 {
			n.Right = numbers[n.Right]
		}
		if n.Level > 0 {
			n.Pairs = slices.Clone(n.Pairs)
			for i, p := range n.Pairs {
				n.Pairs[i].Value = numbers[p.Value]
			}
		}
		mixed.Nodes[numbers[at]] = n
	}
	return mixed
}

// TestEachKeyHasAWayToOneLeaf tells promise 5: from the root, and from each node that the key is not to the left of, there is one leaf for it.
func TestEachKeyHasAWayToOneLeaf(t *testing.T) {
	draw := drawsFrom(3)
	for i := range 300 {
		tree, leaves := drawnSound(draw)
		if !impl.TreeOk(tree) {
			t.Fatalf("refused: %+v", tree)
		}
		what := fmt.Sprint("drawn tree ", i)
		home := 0
		for key := range int64(impl.MaxKey + 1) {
			for leaves[home].High != -1 && leaves[home].High <= key {
				home++
			}
			leaf := impl.LeafOf(tree, key)
			if leaf < 0 || leaf >= int64(len(tree.Nodes)) || tree.Nodes[leaf].High != leaves[home].High || !slices.Equal(tree.Nodes[leaf].Pairs, leaves[home].Pairs) {
				t.Fatalf("%s: key %d of %+v: leaf %d, want %+v", what, key, tree, leaf, leaves[home])
			}
			wantLeaf(t, what, tree, key, leaf)
			wantHome(t, what, tree, key, leaf)
		}
	}
}

// wantHome goes from each node of the rows whose low is not more than key.
func wantHome(t *testing.T, what string, tree impl.Tree, key, leaf int64) {
	t.Helper()
	for level := range tree.Nodes[tree.Root].Level + 1 {
		low := int64(0)
		for _, from := range impl.RowOf(tree, level) {
			if low > key {
				break
			}
			low = tree.Nodes[from].High
			at, by := from, int64(impl.WyNone)
			for range 2 * impl.MaxNodes {
				if at, by = impl.NextOf(tree, at, key, 0); by == impl.WyHere || by == impl.WyNone {
					break
				}
			}
			if at != leaf || by != impl.WyHere {
				t.Fatalf("%s: key %d from node %d of %+v: %d, %d, want %d", what, key, from, tree, at, by, leaf)
			}
		}
	}
}

// TestWaysOfDrawnTrees goes by links to anywhere.
func TestWaysOfDrawnTrees(t *testing.T) {
	draw := drawsFrom(2)
	for i := range 2000 {
		what := fmt.Sprint("drawn tree ", i)
		tree := drawnTree(draw)
		for at, n := range tree.Nodes {
			if n.High != -1 {
				tree.Nodes[at].High = 8 + draw(impl.MaxKey-6)
			}
		}
		for range 20 {
			at, key, want := draw(impl.MaxNodes+2)-1, draw(impl.MaxKey+1), draw(6)-1
			wantWay(t, what, tree, at, key, want, wantedWay(tree, at, key, want))
			wantLeaf(t, what, tree, key, wantedLeaf(tree, key))
		}
	}
}

func TestWrongTreesHaveNoWays(t *testing.T) {
	for why, tree := range wrongTrees() {
		for _, at := range []int64{least, -1, 0, 1, tree.Root, impl.MaxNodes - 1, impl.MaxNodes, most} {
			for _, key := range []int64{-1, 0, 1, 50, impl.MaxKey, impl.MaxKey + 1} {
				for want := int64(-1); want <= 2; want++ {
					wantWay(t, why, tree, at, key, want, way{-1, impl.WyNone})
				}
			}
		}
		for _, key := range askedKeys() {
			wantLeaf(t, why, tree, key, -1)
		}
	}
}

// TestWrongBesideTheWay: a tree is not right by its Root or by one node, though the way would not come by there.
func TestWrongBesideTheWay(t *testing.T) {
	root := twoLevels()
	root.Root = 3
	beside := twoLevels()
	beside.Nodes[1].Owner = impl.MaxTasks + 1
	behind := twoLevels()
	behind.Nodes = append(behind.Nodes, impl.Node{})
	kid := twoLevels()
	kid.Nodes[2] = endInner(1, pair(0, 0), pair(9, 3))
	for i, tree := range []impl.Tree{root, beside, behind, kid} {
		what := fmt.Sprint("wrong tree ", i)
		wantWay(t, what, tree, 2, 1, 0, way{-1, impl.WyNone})
		wantWay(t, what, tree, 0, 1, 0, way{-1, impl.WyNone})
		wantLeaf(t, what, tree, 1, -1)
	}
}

func TestArgumentsOfWaysStay(t *testing.T) {
	trees := wayTrees()
	for why, tree := range wrongTrees() {
		trees["wrong: "+why] = tree
	}
	for _, was := range trees {
		arg := spareTree(was)
		for _, key := range []int64{-1, 0, 1, 9, 50, impl.MaxKey, impl.MaxKey + 1} {
			for _, at := range []int64{-1, 0, was.Root, int64(len(was.Nodes)) - 1, int64(len(was.Nodes))} {
				for want := int64(-1); want <= 2; want++ {
					impl.NextOf(arg, at, key, want)
				}
			}
			impl.LeafOf(arg, key)
			impl.Found(arg, key)
		}
		wantTreeStayed(t, arg, was)
	}
}

// TestSpareRoomOfWaysIsNotRead: what stands behind the nodes and behind their pairs is not there, even where it would be right.
func TestSpareRoomOfWaysIsNotRead(t *testing.T) {
	for what, tree := range wayTrees() {
		arg := spareTree(tree)
		for key := range int64(impl.MaxKey + 1) {
			wantLeaf(t, what, arg, key, wantedLeaf(tree, key))
		}
	}
	leaves := roomBehind([]impl.Node{endLeaf(roomBehind([]impl.Pair{pair(1, 10)}, pair(2, 20))...)}, endLeaf(pair(3, 30)))
	tree := treeOf(0, leaves...)
	for _, key := range []int64{2, 3} {
		wantLeaf(t, "behind the leaf", tree, key, 0)
		wantWay(t, "behind the leaf", tree, 1, key, 0, way{-1, impl.WyNone})
	}
	kids := roomBehind([]impl.Pair{pair(0, 1)}, pair(5, 2))
	tree = treeOf(0, endInner(1, kids...), endLeaf(), endLeaf(pair(9, 90)))
	wantWay(t, "a kid behind the others", tree, 0, 9, 0, way{1, impl.WyDown})
	wantLeaf(t, "a kid behind the others", tree, 9, 1)
}
