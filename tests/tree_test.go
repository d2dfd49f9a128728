package tests

import (
	"fmt"
	"slices"
	"testing"

	"loop.example/g00796/impl"
)

func treeOf(root int64, nodes ...impl.Node) impl.Tree { return impl.Tree{Root: root, Nodes: nodes} }

// endLeaf and endInner have no node to their right.
func endLeaf(list ...impl.Pair) impl.Node { return last(impl.Node{Pairs: list}) }

func endInner(level int64, list ...impl.Pair) impl.Node {
	return last(impl.Node{Level: level, Pairs: list})
}

// linkTo is the node with a bound more than all keys, and with that one to its right.
func linkTo(n impl.Node, right int64) impl.Node {
	n.High, n.Right = impl.MaxKey+1, right
	return n
}

// leavesInARow are n leaves, each with a link to the next one.
func leavesInARow(n int64) []impl.Node {
	row := []impl.Node{}
	for i := range n {
		row = append(row, impl.Node{Pairs: []impl.Pair{pair(i, 999-i)}, High: i + 1, Right: i + 1})
	}
	row[n-1] = last(row[n-1])
	return row
}

// twoLevels has two leaves below the root.
func twoLevels() impl.Tree {
	return treeOf(2,
		linkTo(endLeaf(pair(1, 40), pair(5, 999)), 1),
		endLeaf(pair(9, 3)),
		endInner(1, pair(0, 0), pair(9, 1)))
}

// threeLevels has its nodes in no order, and among its leaves one that the level above is not told of.
func threeLevels() impl.Tree {
	return treeOf(4,
		impl.Node{Pairs: []impl.Pair{pair(50, 500)}, High: 70, Right: 3},
		impl.Node{Pairs: []impl.Pair{pair(3, 30)}, High: 10, Right: 5, Owner: 2},
		endInner(1, pair(40, 0), pair(70, 3)),
		endLeaf(pair(70, 700)),
		endInner(2, pair(0, 6), pair(40, 2)),
		impl.Node{High: 30, Right: 7},
		impl.Node{Level: 1, Pairs: []impl.Pair{pair(0, 1), pair(10, 5)}, High: 40, Right: 2},
		impl.Node{Pairs: []impl.Pair{pair(30, 300), pair(39, 390)}, High: 40, Right: 0, Owner: 6})
}

// tallTree has one node of each level, the leaf last.
func tallTree() impl.Tree {
	t := impl.Tree{}
	for level := int64(impl.MaxLevel); level > 0; level-- {
		t.Nodes = append(t.Nodes, endInner(level, pair(0, impl.MaxLevel-level+1)))
	}
	t.Nodes = append(t.Nodes, endLeaf())
	return t
}

// rowsCase is a right tree, and its row of each level that has one.
type rowsCase struct {
	tree impl.Tree
	rows map[int64][]int64
}

// upTo are the numbers below n.
func upTo(n int64) []int64 {
	list := []int64{}
	for i := range n {
		list = append(list, i)
	}
	return list
}

// again is the list, and then the rest of MaxNodes numbers, which come round.
func again(list []int64, round ...int64) []int64 {
	for i := 0; len(list) < impl.MaxNodes; i++ {
		list = append(list, round[i%len(round)])
	}
	return list
}

func rightTrees() map[string]rowsCase {
	cases := map[string]rowsCase{
		"new":               {impl.NewTree(), map[int64][]int64{0: {0}}},
		"a leaf alone":      {treeOf(0, endLeaf(pair(3, 40), pair(99, 999))), map[int64][]int64{0: {0}}},
		"a held leaf":       {treeOf(0, withOwner(endLeaf(), impl.MaxTasks)), map[int64][]int64{0: {0}}},
		"the second leaf":   {treeOf(1, leavesInARow(3)...), map[int64][]int64{0: {1, 2}}},
		"the last leaf":     {treeOf(2, leavesInARow(3)...), map[int64][]int64{0: {2}}},
		"two levels":        {twoLevels(), map[int64][]int64{0: {0, 1}, 1: {2}}},
		"three levels":      {threeLevels(), map[int64][]int64{0: {1, 5, 7, 0, 3}, 1: {6, 2}, 2: {4}}},
		"all levels":        {tallTree(), map[int64][]int64{6: {0}, 5: {1}, 4: {2}, 3: {3}, 2: {4}, 1: {5}, 0: {6}}},
		"one less than all": {treeOf(0, leavesInARow(impl.MaxNodes-1)...), map[int64][]int64{0: upTo(impl.MaxNodes - 1)}},
		"as many as can be": {treeOf(0, leavesInARow(impl.MaxNodes)...), map[int64][]int64{0: upTo(impl.MaxNodes)}},
	}
	addRounds(cases)
	addWrongWaysDown(cases)
	return cases
}

// addRounds adds right trees whose Rights go round, or to another Level.
func addRounds(cases map[string]rowsCase) {
	ring := leavesInARow(impl.MaxNodes)
	ring[impl.MaxNodes-1] = linkTo(ring[impl.MaxNodes-1], 0)
	cases["a ring of all nodes"] = rowsCase{treeOf(0, ring...), map[int64][]int64{0: upTo(impl.MaxNodes)}}
	cases["a ring from its middle on"] = rowsCase{treeOf(38, ring...), map[int64][]int64{0: append([]int64{38, 39}, upTo(38)...)}}
	cases["a leaf beside itself"] = rowsCase{treeOf(0, linkTo(endLeaf(), 0)), map[int64][]int64{0: again(nil, 0)}}
	cases["two leaves in turn"] = rowsCase{
		treeOf(0, linkTo(endLeaf(), 1), linkTo(endLeaf(), 0)),
		map[int64][]int64{0: again(nil, 0, 1)}}
	cases["back to one that was there"] = rowsCase{
		treeOf(0, linkTo(endLeaf(), 1), linkTo(endLeaf(), 2), linkTo(endLeaf(), 1)),
		map[int64][]int64{0: again([]int64{0}, 1, 2)}}
	cases["the last one beside itself"] = rowsCase{
		treeOf(0, linkTo(endLeaf(), 1), linkTo(endLeaf(), 1)),
		map[int64][]int64{0: again([]int64{0}, 1)}}
	cases["a root beside itself"] = rowsCase{
		treeOf(0, linkTo(endInner(1, pair(0, 1)), 0), endLeaf()),
		map[int64][]int64{0: {1}, 1: again(nil, 0)}}
	cases["from a leaf to the root"] = rowsCase{
		treeOf(1, linkTo(endLeaf(), 1), endInner(1, pair(0, 0))),
		map[int64][]int64{0: {0, 1}, 1: {1}}}
	cases["from the root to a leaf"] = rowsCase{
		treeOf(1, endLeaf(), linkTo(endInner(1, pair(0, 0)), 0)),
		map[int64][]int64{0: {0}, 1: {1, 0}}}
	cases["round by another level"] = rowsCase{
		treeOf(1, linkTo(endLeaf(), 1), linkTo(endInner(1, pair(0, 0)), 0)),
		map[int64][]int64{0: again(nil, 0, 1), 1: again(nil, 1, 0)}}
	cases["by another level and on"] = rowsCase{
		treeOf(0, linkTo(endLeaf(), 1), linkTo(endInner(5, pair(0, 2)), 2), endLeaf()),
		map[int64][]int64{0: {0, 1, 2}}}
}

// addWrongWaysDown adds right trees in which a way down does not go one Level at a time.
func addWrongWaysDown(cases map[string]rowsCase) {
	for _, level := range []int64{1, 2, 3, impl.MaxLevel} {
		t := threeLevels()
		t.Nodes[1] = withLevel(withPairs(t.Nodes[1], pair(3, 3)), level)
		cases[fmt.Sprint("level ", level, " below level 1")] = rowsCase{t, map[int64][]int64{1: {6, 2}, 2: {4}}}
	}
	for _, level := range []int64{0, 2, 3, impl.MaxLevel} {
		t := threeLevels()
		t.Nodes[6].Level = level
		cases[fmt.Sprint("level ", level, " below level 2")] = rowsCase{t, map[int64][]int64{2: {4}}}
	}
	cases["an inner node below itself"] = rowsCase{treeOf(0, endInner(1, pair(0, 0))), map[int64][]int64{1: {0}}}
	cases["the root above a leaf, from 6"] = rowsCase{
		treeOf(0, endInner(impl.MaxLevel, pair(0, 1)), endLeaf()),
		map[int64][]int64{impl.MaxLevel: {0}}}
	t := twoLevels()
	t.Nodes[1] = endInner(1, pair(9, 0))
	cases["a wrong way by the second pair"] = rowsCase{t, map[int64][]int64{0: {0, 1}, 1: {2}}}
	t = twoLevels()
	t.Nodes[0] = endInner(1, pair(9, 1))
	cases["a wrong way by the first pair alone"] = rowsCase{t, map[int64][]int64{1: {2}}}
	t = threeLevels()
	t.Nodes[2].Level = 4
	cases["a wrong level to the right"] = rowsCase{t, map[int64][]int64{0: {1, 5, 7, 0, 3}, 1: {6, 2}, 2: {4}}}
}

// filled is a tree of MaxNodes right nodes, with that one among them.
func filled(at int64, n impl.Node) impl.Tree {
	t := treeOf(0, leavesInARow(impl.MaxNodes)...)
	t.Nodes[at] = n
	return t
}

// wrongTrees are not TreeOk, each for one reason.
func wrongTrees() map[string]impl.Tree {
	trees := map[string]impl.Tree{
		"zero":             {},
		"no nodes":         {Nodes: []impl.Node{}},
		"root -1 of none":  {Root: -1},
		"one too many":     treeOf(0, append(leavesInARow(impl.MaxNodes), endLeaf())...),
		"root among a lot": treeOf(impl.MaxNodes-1, slices.Repeat([]impl.Node{endLeaf()}, 1000)...),
		"root one too many": treeOf(impl.MaxNodes,
			slices.Repeat([]impl.Node{endLeaf()}, impl.MaxNodes+1)...),
	}
	for why, n := range wrongNodes() {
		for _, at := range []int64{0, 1, impl.MaxNodes - 1} {
			trees[fmt.Sprint("node ", at, ": ", why)] = filled(at, n)
		}
		trees["alone: "+why] = treeOf(0, n)
	}
	for _, count := range []int64{1, 2, 3, impl.MaxNodes - 1, impl.MaxNodes} {
		addWrongLinks(trees, count)
	}
	return trees
}

// addWrongLinks adds trees of so many nodes, with one number among them that is none of those.
func addWrongLinks(trees map[string]impl.Tree, count int64) {
	for _, to := range []int64{least, -2, -1, count, count + 1, impl.MaxNodes - 1, impl.MaxNodes, most} {
		if 0 <= to && to < count {
			continue
		}
		trees[fmt.Sprint(count, " nodes, root ", to)] = treeOf(to, leavesInARow(count)...)
		for _, at := range []int64{0, count - 1} {
			t := treeOf(0, leavesInARow(count)...)
			t.Nodes[at] = linkTo(t.Nodes[at], to)
			trees[fmt.Sprint(count, " nodes, right of ", at, " is ", to)] = t
			for i := range impl.Fan {
				t := treeOf(0, leavesInARow(count)...)
				list := []impl.Pair{pair(0, 0), pair(1, 0), pair(2, 0), pair(3, 0)}
				list[i].Value = to
				t.Nodes[at] = endInner(1+int64(i), list...)
				trees[fmt.Sprint(count, " nodes, kid ", i, " of ", at, " is ", to)] = t
			}
		}
	}
}

// askedLevels are all levels, and some that can't be.
func askedLevels() []int64 {
	levels := []int64{least, least + 1, -2, -1, impl.MaxLevel + 1, impl.MaxLevel + 2, impl.MaxNodes, most - 1, most}
	for level := range int64(impl.MaxLevel + 1) {
		levels = append(levels, level)
	}
	return levels
}

func TestNewTree(t *testing.T) {
	n := impl.NewTree()
	if n.Root != 0 || len(n.Nodes) != 1 {
		t.Fatal(n)
	}
	only := n.Nodes[0]
	if only.Level != 0 || len(only.Pairs) != 0 || only.High != -1 || only.Right != -1 || only.Owner != 0 {
		t.Fatal(n)
	}
	if !impl.TreeOk(n) {
		t.Fatal("refused")
	}
}

func TestTreeOk(t *testing.T) {
	for what, c := range rightTrees() {
		if !impl.TreeOk(c.tree) {
			t.Errorf("%s: refused: %+v", what, c.tree)
		}
	}
	for why, tree := range wrongTrees() {
		if impl.TreeOk(tree) {
			t.Errorf("%s: accepted: %+v", why, tree)
		}
	}
}

func TestTreeOkOfEachRightNode(t *testing.T) {
	for what, n := range rightNodes() {
		for _, at := range []int64{0, 1, impl.MaxNodes - 1} {
			if tree := filled(at, n); !impl.TreeOk(tree) {
				t.Errorf("%s: refused as node %d: %+v", what, at, n)
			}
		}
	}
}

// TestNumbersOfNodes tries, by how many nodes there are, each number about the limits at each place of a link.
func TestNumbersOfNodes(t *testing.T) {
	for _, count := range []int64{1, 2, 3, impl.MaxNodes - 1, impl.MaxNodes} {
		for to := int64(-3); to <= impl.MaxNodes+3; to++ {
			there := to > -1 && to < count
			for at := range count {
				rights := treeOf(0, leavesInARow(count)...)
				rights.Nodes[at] = linkTo(rights.Nodes[at], to)
				kids := treeOf(0, leavesInARow(count)...)
				kids.Nodes[at] = endInner(1, pair(0, 0), pair(5, to))
				values := treeOf(0, leavesInARow(count)...)
				values.Nodes[at] = endLeaf(pair(5, to))
				if impl.TreeOk(rights) != there || impl.TreeOk(kids) != there || impl.TreeOk(values) != (to > -1) {
					t.Fatalf("%d nodes, %d in node %d", count, to, at)
				}
			}
			if impl.TreeOk(treeOf(to, leavesInARow(count)...)) != there {
				t.Fatalf("%d nodes, root %d", count, to)
			}
		}
	}
}

func TestRowOf(t *testing.T) {
	for what, c := range rightTrees() {
		for _, level := range askedLevels() {
			if got := impl.RowOf(c.tree, level); !slices.Equal(got, c.rows[level]) {
				t.Errorf("%s: row %d is %v, want %v", what, level, got, c.rows[level])
			}
		}
	}
}

func TestWrongTreesHaveNoRows(t *testing.T) {
	for why, tree := range wrongTrees() {
		for _, level := range askedLevels() {
			if got := impl.RowOf(tree, level); len(got) != 0 {
				t.Fatalf("%s: row %d is %v", why, level, got)
			}
		}
	}
}

// TestWaysDownOneLevelAtATime tries each Level of a root above each Level of another node.
func TestWaysDownOneLevelAtATime(t *testing.T) {
	for top := int64(1); top <= impl.MaxLevel; top++ {
		for below := range int64(impl.MaxLevel + 1) {
			tree := treeOf(1, withLevel(endLeaf(pair(0, 0)), below), endInner(top, pair(3, 0), pair(4, 1)))
			for _, level := range askedLevels() {
				want := []int64{}
				switch {
				case level == top:
					want = []int64{1}
				case level == below && below+1 == top:
					want = []int64{0}
				}
				if got := impl.RowOf(tree, level); !slices.Equal(got, want) {
					t.Fatalf("level %d above level %d: row %d is %v, want %v", top, below, level, got, want)
				}
			}
		}
	}
}

// drawnTree is a right tree with links to anywhere.
func drawnTree(draw func(int64) int64) impl.Tree {
	count := 1 + draw(impl.MaxNodes)
	t := impl.Tree{Root: draw(count)}
	for range count {
		n := endInner(draw(4), pair(0, draw(count)), pair(7, draw(count)))
		if draw(5) > 0 {
			n = linkTo(n, draw(count))
		}
		t.Nodes = append(t.Nodes, n)
	}
	return t
}

// wantedRow goes down from one node by itself, and then to the right from the end of the answer.
func wantedRow(t impl.Tree, at, level int64) []int64 {
	n := t.Nodes[at]
	if level < 0 || level > n.Level {
		return nil
	}
	if level < n.Level {
		kid := n.Pairs[0].Value
		if t.Nodes[kid].Level+1 != n.Level {
			return nil
		}
		return wantedRow(t, kid, level)
	}
	row := []int64{at}
	for len(row) < 40 && t.Nodes[row[len(row)-1]].Right > -1 {
		row = append(row, t.Nodes[row[len(row)-1]].Right)
	}
	return row
}

func TestRowsOfDrawnTrees(t *testing.T) {
	draw := drawsFrom(1)
	for range 5000 {
		tree := drawnTree(draw)
		if !impl.TreeOk(tree) {
			t.Fatalf("refused: %+v", tree)
		}
		for level := int64(-1); level <= 4; level++ {
			want := wantedRow(tree, tree.Root, level)
			if got := impl.RowOf(tree, level); !slices.Equal(got, want) || len(got) > impl.MaxNodes {
				t.Fatalf("row %d of %+v is %v, want %v", level, tree, got, want)
			}
		}
	}
}

func TestNewTreeIsNewMemory(t *testing.T) {
	one, other := impl.NewTree(), impl.NewTree()
	onePairs := append(one.Nodes[0].Pairs, pair(1, 1))
	otherPairs := append(other.Nodes[0].Pairs, pair(2, 2))
	wantPairs(t, onePairs, []impl.Pair{pair(1, 1)})
	wantPairs(t, otherPairs, []impl.Pair{pair(2, 2)})
	room := one.Nodes[:cap(one.Nodes)]
	for i := range room {
		room[i] = sentinelNode
	}
	wantTree(t, other, treeOf(0, endLeaf()))
	wantTree(t, impl.NewTree(), treeOf(0, endLeaf()))
}

func TestRowsAreNewMemory(t *testing.T) {
	for what, c := range rightTrees() {
		arg := spareTree(c.tree)
		for _, level := range askedLevels() {
			kept, answer := impl.RowOf(arg, level), impl.RowOf(arg, level)
			room := answer[:cap(answer)]
			for i := range room {
				room[i] = -55
			}
			if !slices.Equal(kept, c.rows[level]) {
				t.Fatalf("%s: row %d was written: %v", what, level, kept)
			}
			if later := impl.RowOf(arg, level); !slices.Equal(later, c.rows[level]) {
				t.Fatalf("%s: row %d is %v later", what, level, later)
			}
		}
		wantTreeStayed(t, arg, c.tree)
	}
}

func TestArgumentsOfTreesStay(t *testing.T) {
	trees := wrongTrees()
	for what, c := range rightTrees() {
		trees["right: "+what] = c.tree
	}
	for _, was := range trees {
		arg := spareTree(was)
		impl.TreeOk(arg)
		for _, level := range askedLevels() {
			impl.RowOf(arg, level)
		}
		wantTreeStayed(t, arg, was)
	}
}

// TestSpareRoomOfTreesIsNotRead: the nodes and pairs that stand behind the lists are none of the tree's.
func TestSpareRoomOfTreesIsNotRead(t *testing.T) {
	for what, c := range rightTrees() {
		arg := spareTree(c.tree)
		if !impl.TreeOk(arg) {
			t.Fatalf("%s: refused", what)
		}
	}
	leaves := []impl.Node{linkTo(endLeaf(), 1), endLeaf()}
	right := treeOf(0, roomBehind(leaves, endLeaf())...)
	right.Nodes[0].Right = 2
	root := treeOf(2, roomBehind(leaves, endLeaf())...)
	kid := treeOf(0, roomBehind([]impl.Node{endInner(1, pair(0, 1))}, endLeaf())...)
	for i, tree := range []impl.Tree{right, root, kid} {
		if impl.TreeOk(tree) || len(impl.RowOf(tree, 0)) != 0 {
			t.Fatal(i)
		}
	}
}
