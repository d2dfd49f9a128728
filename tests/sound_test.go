package tests

import (
	"fmt"
	"slices"
	"testing"

	"loop.example/g00796/impl"
)

// soundCase is a sound tree, what is in it, and whether all its nodes are told of.
type soundCase struct {
	tree  impl.Tree
	pairs []impl.Pair
	told  bool
}

// toldThree is threeLevels, once the level above is told of each leaf.
func toldThree() impl.Tree {
	tree := threeLevels()
	tree.Nodes[6].Pairs = append(tree.Nodes[6].Pairs, pair(30, 7))
	return tree
}

func pairsOfThree() []impl.Pair {
	return []impl.Pair{pair(3, 30), pair(30, 300), pair(39, 390), pair(50, 500), pair(70, 700)}
}

func pairsOfHalved() []impl.Pair {
	return []impl.Pair{pair(1, 40), pair(5, 999), pair(9, 3), pair(12, 120), pair(20, 200), pair(30, 300), pair(99, 990)}
}

// twoAtTheTop is toldThree with its root halved: node 8 is the upper half.
func twoAtTheTop() impl.Tree {
	tree := withMore(toldThree(), endInner(2, pair(40, 2)))
	tree.Nodes[4] = impl.Node{Level: 2, Pairs: []impl.Pair{pair(0, 6)}, High: 40, Right: 8}
	return tree
}

// twoLeaves has full leaves below a root; the second leaf begins with its low.
func twoLeaves() impl.Tree {
	return treeOf(0,
		endInner(1, pair(0, 2), pair(9, 1)),
		endLeaf(pair(9, 90), pair(12, 120), pair(15, 150), pair(99, 999)),
		impl.Node{Pairs: []impl.Pair{pair(0, 0), pair(4, 40), pair(7, 70), pair(8, 80)}, High: 9, Right: 1})
}

func pairsOfTwoLeaves() []impl.Pair {
	return []impl.Pair{pair(0, 0), pair(4, 40), pair(7, 70), pair(8, 80), pair(9, 90), pair(12, 120), pair(15, 150), pair(99, 999)}
}

// ofRow are the pairs of leavesInARow from one on up to another.
func ofRow(from, upTo int64) []impl.Pair {
	list := []impl.Pair{}
	for key := from; key < upTo; key++ {
		list = append(list, pair(key, 999-key))
	}
	return list
}

// changed is the tree with that node changed; the tree given stays.
func changed(tree impl.Tree, at int64, change func(n *impl.Node)) impl.Tree {
	tree = spareTree(tree)
	change(&tree.Nodes[at])
	return tree
}

// withKid is the tree with that pair in place of another one; the tree given stays.
func withKid(tree impl.Tree, at, i int64, p impl.Pair) impl.Tree {
	return changed(tree, at, func(n *impl.Node) { n.Pairs[i] = p })
}

// cutShort is the tree with the first pairs only of that node; the tree given stays.
func cutShort(tree impl.Tree, at, count int64) impl.Tree {
	return changed(tree, at, func(n *impl.Node) { n.Pairs = n.Pairs[:count] })
}

// rootAt is the tree with another Root.
func rootAt(tree impl.Tree, root int64) impl.Tree {
	tree.Root = root
	return tree
}

// withMore is the tree with more nodes, which nobody leads to; the tree given stays.
func withMore(tree impl.Tree, nodes ...impl.Node) impl.Tree {
	tree.Nodes = slices.Concat(tree.Nodes, nodes)
	return tree
}

func soundTrees() map[string]soundCase {
	cases := map[string]soundCase{
		"new":               {impl.NewTree(), nil, true},
		"a leaf alone":      {treeOf(0, endLeaf(pair(0, 0), pair(99, 999))), []impl.Pair{pair(0, 0), pair(99, 999)}, true},
		"a full leaf alone": {treeOf(0, endLeaf(rising(impl.Fan, 96, 1)...)), rising(impl.Fan, 96, 1), true},
		"two in a row":      {treeOf(0, leavesInARow(2)...), ofRow(0, 2), true},
		"three in a row":    {treeOf(0, leavesInARow(3)...), ofRow(0, 3), true},
		"as many as can be": {treeOf(0, leavesInARow(impl.MaxNodes)...), ofRow(0, impl.MaxNodes), true},
		"no order of numbers": {treeOf(1, endLeaf(pair(60, 6)), impl.Node{Pairs: []impl.Pair{pair(7, 8)}, High: 20, Right: 2},
			impl.Node{High: 60, Right: 0}), []impl.Pair{pair(7, 8), pair(60, 6)}, true},
		"no key behind 99": {treeOf(0, linkTo(endLeaf(pair(99, 1)), 1), endLeaf()), []impl.Pair{pair(99, 1)}, true},
		"from the second":  {treeOf(1, leavesInARow(3)...), ofRow(1, 3), true},
		"the last one":     {treeOf(2, leavesInARow(3)...), ofRow(2, 3), true},
		"all levels":       {tallTree(), nil, true},
		"one below":        {treeOf(1, endLeaf(pair(5, 50)), endInner(1, pair(0, 0))), []impl.Pair{pair(5, 50)}, true},
		"two leaves":       {twoLeaves(), pairsOfTwoLeaves(), true},
		"halved root":      {halvedRoot(), pairsOfHalved(), true},
		"three levels":     {toldThree(), pairsOfThree(), true},
	}
	addUntold(cases)
	addBeside(cases)
	return cases
}

// addUntold adds sound trees in which a node has no pair above, and the same once it has one.
func addUntold(cases map[string]soundCase) {
	cases["the last leaf untold"] = soundCase{cutShort(twoLeaves(), 0, 1), pairsOfTwoLeaves(), false}
	cases["halved"] = soundCase{halved(), pairsOfHalved(), false}
	told := changed(halved(), 2, func(n *impl.Node) { n.Pairs = append(n.Pairs, pair(30, 3)) })
	cases["halved and told"] = soundCase{told, pairsOfHalved(), true}
	cases["a leaf between untold"] = soundCase{threeLevels(), pairsOfThree(), false}
	cases["the last leaf of three levels untold"] = soundCase{cutShort(toldThree(), 2, 1), pairsOfThree(), false}
	cases["an inner node untold"] = soundCase{cutShort(toldThree(), 4, 1), pairsOfThree(), false}
	cases["two nodes untold"] = soundCase{cutShort(threeLevels(), 4, 1), pairsOfThree(), false}
	cases["all but the first untold"] = soundCase{cutShort(cutShort(toldThree(), 6, 1), 2, 1), pairsOfThree(), false}
	cases["of two at the top, a leaf untold"] = soundCase{cutShort(halvedRoot(), 4, 1), pairsOfHalved(), false}
	raised := withMore(halvedRoot(), endInner(2, pair(0, 2)))
	cases["a root above, the upper one untold"] = soundCase{rootAt(raised, 5), pairsOfHalved(), false}
	raised = withKid(withMore(halvedRoot(), endInner(2, pair(0, 2), pair(9, 9))), 5, 1, pair(9, 4))
	cases["a root above both"] = soundCase{rootAt(raised, 5), pairsOfHalved(), true}
}

// addBeside adds sound trees with nodes that are in no row, whatever those are, and with Owners.
func addBeside(cases map[string]soundCase) {
	cases["more nodes"] = soundCase{
		withMore(toldThree(), endLeaf(pair(4, 4)), linkTo(endInner(5, pair(9, 8), pair(10, 0)), 8), endInner(2, pair(0, 9))),
		pairsOfThree(), true}
	cases["an upper half that nobody has a link to"] = soundCase{
		withMore(twoLeaves(), endLeaf(pair(12, 120), pair(20, 200))),
		pairsOfTwoLeaves(), true}
	cases["a root to be"] = soundCase{withMore(halvedRoot(), endInner(2, pair(0, 2), pair(9, 4))), pairsOfHalved(), true}
	for owner := range int64(impl.MaxTasks + 1) {
		tree := toldThree()
		for at := range tree.Nodes {
			tree.Nodes[at].Owner = owner
		}
		cases[fmt.Sprint("all of owner ", owner)] = soundCase{tree, pairsOfThree(), true}
	}
}

// unsoundTrees are right trees that are not Sound, each for one reason.
func unsoundTrees() map[string]impl.Tree {
	trees := map[string]impl.Tree{}
	addNoRows(trees)
	addNoEnds(trees)
	addOtherLevels(trees)
	addWrongKeys(trees)
	addWrongHighs(trees)
	addWrongKids(trees)
	return trees
}

// addNoRows adds trees in which a row does not begin where it should.
func addNoRows(trees map[string]impl.Tree) {
	trees["nothing between"] = treeOf(0, endInner(2, pair(0, 1)), endLeaf())
	trees["nothing below"] = treeOf(0, endInner(1, pair(0, 0)))
	trees["a leaf below the highest level"] = treeOf(0, endInner(impl.MaxLevel, pair(0, 1)), endLeaf())
	trees["root one level too high"] = changed(twoLeaves(), 0, func(n *impl.Node) { n.Level = 2 })
	trees["the first one below is too high"] = changed(toldThree(), 6, func(n *impl.Node) { n.Level = 2 })
	trees["the first one below is too low"] = changed(toldThree(), 6, func(n *impl.Node) { n.Level = 0 })
	trees["the first leaf is none"] = changed(toldThree(), 1, func(n *impl.Node) { n.Level, n.Pairs[0] = 1, pair(0, 1) })
	trees["the row begins with its second"] = withKid(toldThree(), 6, 0, pair(0, 5))
	trees["the row begins with its last"] = withKid(twoLeaves(), 0, 0, pair(0, 1))
	trees["a higher row begins with its second"] = withKid(toldThree(), 4, 0, pair(0, 2))
	trees["root is the second of its row"] = rootAt(toldThree(), 2)
	trees["root is the upper half"] = rootAt(halvedRoot(), 4)
}

// addNoEnds adds trees in which a row comes to a node twice, or has all nodes and goes on.
func addNoEnds(trees map[string]impl.Tree) {
	for count := int64(1); count <= impl.MaxNodes; count++ {
		ring := leavesInARow(count)
		ring[count-1] = linkTo(ring[count-1], 0)
		trees[fmt.Sprint("a ring of ", count)] = treeOf(0, ring...)
		ring = leavesInARow(count)
		ring[count-1] = linkTo(ring[count-1], count-1)
		trees[fmt.Sprint(count, " and the last one again")] = treeOf(0, ring...)
	}
	goOn := func(tree impl.Tree, at, right int64) impl.Tree {
		return changed(tree, at, func(n *impl.Node) { *n = linkTo(*n, right) })
	}
	trees["from the last leaf to the first"] = goOn(toldThree(), 3, 1)
	trees["from the last leaf to itself"] = goOn(toldThree(), 3, 3)
	trees["from a leaf to itself"] = changed(toldThree(), 5, func(n *impl.Node) { n.Right = 5 })
	trees["from a leaf to the one ahead"] = changed(threeLevels(), 7, func(n *impl.Node) { n.Right = 5 })
	trees["from the last inner node to the first"] = goOn(toldThree(), 2, 6)
	trees["from the root to itself"] = goOn(toldThree(), 4, 4)
	trees["from the upper root to the lower"] = goOn(halvedRoot(), 4, 2)
}

// addOtherLevels adds trees with a node of another Level in a row, which would have its place there but for that.
func addOtherLevels(trees map[string]impl.Tree) {
	for level := range int64(impl.MaxLevel + 1) {
		as := func(tree impl.Tree, at int64) impl.Tree {
			return changed(tree, at, func(n *impl.Node) { n.Level = level })
		}
		if level != 0 {
			leaf := changed(toldThree(), 3, func(n *impl.Node) { n.Pairs = []impl.Pair{pair(70, 3)} })
			trees[fmt.Sprint("the last leaf of level ", level)] = as(leaf, 3)
			leaf = changed(threeLevels(), 7, func(n *impl.Node) { n.Pairs = []impl.Pair{pair(30, 0)} })
			trees[fmt.Sprint("a leaf between of level ", level)] = as(leaf, 7)
			trees[fmt.Sprint("beside a leaf, level ", level)] = as(treeOf(0, impl.Node{High: 9, Right: 1}, endLeaf(pair(9, 0))), 1)
		}
		if level != 2 {
			trees[fmt.Sprint("beside the root, level ", level)] = as(twoAtTheTop(), 8)
		}
		if level != 1 {
			trees[fmt.Sprint("the last inner node of level ", level)] = as(toldThree(), 2)
			trees[fmt.Sprint("the upper root of level ", level)] = as(halvedRoot(), 4)
		}
	}
}

// addWrongKeys adds trees with a key that is less than its low, or a first one of a Level above 0 that is more.
func addWrongKeys(trees map[string]impl.Tree) {
	trees["a key just less than the low"] = withKid(toldThree(), 7, 0, pair(29, 300))
	trees["key 0 in the last leaf"] = withKid(toldThree(), 3, 0, pair(0, 700))
	trees["the second leaf, a key less"] = withKid(twoLeaves(), 1, 0, pair(8, 90))
	trees["a key less in an untold leaf"] = withKid(halved(), 3, 0, pair(29, 300))
	trees["a key less in a row"] = changed(treeOf(0, leavesInARow(3)...), 2, func(n *impl.Node) { n.Pairs[0].Key = 1 })
	// The leaves go with the key, so that the pair still leads to one of that low.
	less := changed(toldThree(), 7, func(n *impl.Node) { n.Pairs, n.High = nil, 39 })
	trees["an inner node begins less than its low"] = withKid(less, 2, 0, pair(39, 0))
	more := changed(toldThree(), 7, func(n *impl.Node) { n.High = 41 })
	trees["an inner node begins more than its low"] = withKid(more, 2, 0, pair(41, 0))
	trees["an inner node begins with its second leaf"] = changed(toldThree(), 2, func(n *impl.Node) { n.Pairs = n.Pairs[1:] })
	trees["an upper root begins less than its low"] = changed(halvedRoot(), 2, func(n *impl.Node) { n.High = 10 })
	trees["an upper root begins more than its low"] = changed(halvedRoot(), 2, func(n *impl.Node) { n.High = 8 })
	trees["the root begins with 1"] = withKid(twoLeaves(), 0, 0, pair(1, 2))
	trees["the first inner node begins with 1"] = withKid(toldThree(), 6, 0, pair(1, 1))
}

// addWrongHighs adds trees with a High that is not more than the low.
func addWrongHighs(trees map[string]impl.Tree) {
	for _, high := range []int64{1, 9, 10} {
		trees[fmt.Sprint("low 10, High ", high)] = changed(threeLevels(), 5, func(n *impl.Node) { n.High = high })
	}
	for low := int64(1); low <= impl.MaxKey+1; low++ {
		for _, high := range []int64{1, low - 1, low} {
			if high > 0 {
				trees[fmt.Sprint("in a row, low ", low, ", High ", high)] = treeOf(0,
					impl.Node{High: low, Right: 1}, impl.Node{High: high, Right: 2}, endLeaf())
			}
		}
	}
	trees["alike at the end"] = treeOf(0, linkTo(endLeaf(), 1), linkTo(endLeaf(), 2), endLeaf())
}

// addWrongKids adds trees with a pair above level 0 that leads to a node of another low, of another row, or of none.
func addWrongKids(trees map[string]impl.Tree) {
	for _, to := range []int64{0, 1, 2, 3, 4, 6, 7, 8} {
		spare := withMore(toldThree(), impl.Node{High: 30, Right: 7})
		trees[fmt.Sprint("the pair of key 10 leads to ", to)] = withKid(spare, 6, 1, pair(10, to))
	}
	for _, to := range []int64{0, 1, 3, 4, 5, 6, 7, 8} {
		spare := withMore(toldThree(), endInner(1, pair(40, 0), pair(70, 3)))
		trees[fmt.Sprint("the pair of key 40 leads to ", to)] = withKid(spare, 4, 1, pair(40, to))
	}
	for _, to := range []int64{0, 1, 2, 4} {
		trees[fmt.Sprint("a pair of the upper root leads to ", to)] = withKid(halvedRoot(), 4, 1, pair(30, to))
	}
	for _, key := range []int64{1, 9, 11, 29} {
		trees[fmt.Sprint("low 10, key ", key)] = withKid(toldThree(), 6, 1, pair(key, 5))
	}
	for _, key := range []int64{1, 39, 41, 70} {
		trees[fmt.Sprint("low 40, key ", key)] = withKid(toldThree(), 4, 1, pair(key, 2))
	}
	trees["two pairs of one leaf"] = withKid(toldThree(), 6, 2, pair(30, 5))
	trees["kids the other way"] = withKid(withKid(toldThree(), 6, 1, pair(10, 7)), 6, 2, pair(30, 5))
	trees["the last kid is a node of no row"] = withKid(withMore(twoLeaves(), endLeaf()), 0, 1, pair(9, 3))
	trees["a leaf that is passed by"] = changed(toldThree(), 5, func(n *impl.Node) { n.High, n.Right = 40, 0 })
}

func wantSound(t *testing.T, what string, tree impl.Tree, want soundCase) {
	t.Helper()
	if !impl.Sound(tree) {
		t.Fatalf("%s: not sound: %+v", what, tree)
	}
	if impl.ToldIn(tree) != want.told {
		t.Fatalf("%s: told: %v: %+v", what, !want.told, tree)
	}
	wantPairs(t, impl.PairsIn(tree), want.pairs)
}

// wantUnsound fails unless all three calls give their fixed answer.
func wantUnsound(t *testing.T, why string, tree impl.Tree) {
	t.Helper()
	if list := impl.PairsIn(tree); impl.Sound(tree) || impl.ToldIn(tree) || len(list) != 0 {
		t.Fatalf("%s: sound %v, told %v, %v: %+v", why, impl.Sound(tree), impl.ToldIn(tree), list, tree)
	}
}

func TestSoundTrees(t *testing.T) {
	for what, c := range soundTrees() {
		wantSound(t, what, c.tree, c)
	}
}

func TestUnsoundTrees(t *testing.T) {
	for why, tree := range unsoundTrees() {
		if !impl.TreeOk(tree) {
			t.Fatalf("%s: not right: %+v", why, tree)
		}
		wantUnsound(t, why, tree)
	}
}

func TestWrongTreesAreUnsound(t *testing.T) {
	for why, tree := range wrongTrees() {
		wantUnsound(t, why, tree)
	}
	for why, n := range wrongNodes() {
		wantUnsound(t, "in no row: "+why, withMore(toldThree(), n))
	}
	wantUnsound(t, "no such root", rootAt(toldThree(), 8))
}

// TestKeysAboutTheLow tries each key of a leaf, each first key of an inner node, and each key of a kid, beside each low.
func TestKeysAboutTheLow(t *testing.T) {
	for low := int64(1); low <= impl.MaxKey; low++ {
		for key := range int64(impl.MaxKey + 1) {
			first := impl.Node{High: low, Right: 1}
			row := treeOf(0, first, endLeaf(pair(key, 7)))
			if impl.Sound(row) != (key >= low) {
				t.Fatalf("leaf: low %d, key %d", low, key)
			}
			if key > 0 {
				above := treeOf(2, first, endLeaf(), endInner(1, pair(0, 0), pair(key, 1)))
				if impl.Sound(above) != (key == low) || impl.ToldIn(above) != (key == low) {
					t.Fatalf("kid: low %d, key %d", low, key)
				}
			}
			two := treeOf(2, impl.Node{High: max(key, 1), Right: 1}, endLeaf(),
				impl.Node{Level: 1, Pairs: []impl.Pair{pair(0, 0)}, High: low, Right: 3}, endInner(1, pair(key, 1)))
			if impl.Sound(two) != (key == low) {
				t.Fatalf("inner: low %d, key %d", low, key)
			}
		}
	}
}

// TestHighsAboutTheLow tries each High beside each low, and a last leaf that has no bound beside each.
func TestHighsAboutTheLow(t *testing.T) {
	for low := int64(1); low <= impl.MaxKey+1; low++ {
		for high := int64(1); high <= impl.MaxKey+1; high++ {
			row := treeOf(1, endLeaf(), impl.Node{High: low, Right: 2}, impl.Node{High: high, Right: 0})
			if impl.Sound(row) != (low < high) {
				t.Fatalf("low %d, High %d", low, high)
			}
		}
		if !impl.Sound(treeOf(0, impl.Node{High: low, Right: 1}, endLeaf())) {
			t.Fatalf("low %d, no bound", low)
		}
	}
}

// wantedLow is that of the node in the row, and -1 where it is not there.
func wantedLow(tree impl.Tree, row []int64, at int64) int64 {
	for i, here := range row {
		if here == at && i == 0 {
			return 0
		}
		if here == at {
			return tree.Nodes[row[i-1]].High
		}
	}
	return -1
}

// wantedRowSound asks what the document asks of a row, one after the other.
func wantedRowSound(tree impl.Tree, level int64, row, below []int64) bool {
	been := map[int64]bool{}
	for _, at := range row {
		n := tree.Nodes[at]
		low := wantedLow(tree, row, at)
		if been[at] || n.Level != level || n.High != -1 && n.High <= low {
			return false
		}
		been[at] = true
		for i, p := range n.Pairs {
			if p.Key < low || level > 0 && (i == 0 && p.Key > low || wantedLow(tree, below, p.Value) != p.Key) {
				return false
			}
		}
	}
	return len(row) > 0 && tree.Nodes[row[len(row)-1]].Right < 0
}

// wantedSound goes from the Root's level down, by rows of its own.
func wantedSound(tree impl.Tree) bool {
	if !impl.TreeOk(tree) {
		return false
	}
	for level := tree.Nodes[tree.Root].Level; level >= 0; level-- {
		row := wantedRow(tree, tree.Root, level)
		below := wantedRow(tree, tree.Root, level-1)
		if !wantedRowSound(tree, level, row, below) {
			return false
		}
	}
	return true
}

// wantedCase is what the second way tells of a tree, sound or not.
func wantedCase(tree impl.Tree) (soundCase, bool) {
	if !wantedSound(tree) {
		return soundCase{}, false
	}
	c := soundCase{tree: tree, told: true}
	for _, at := range wantedRow(tree, tree.Root, 0) {
		c.pairs = append(c.pairs, tree.Nodes[at].Pairs...)
	}
	for level := tree.Nodes[tree.Root].Level; level > 0; level-- {
		for _, at := range wantedRow(tree, tree.Root, level-1) {
			c.told = c.told && isKid(tree, wantedRow(tree, tree.Root, level), at)
		}
	}
	return c, true
}

func isKid(tree impl.Tree, row []int64, at int64) bool {
	for _, above := range row {
		for _, p := range tree.Nodes[above].Pairs {
			if p.Value == at {
				return true
			}
		}
	}
	return false
}

// wantAsTold compares with the second way, and tells whether the tree is sound.
func wantAsTold(t *testing.T, what string, tree impl.Tree) bool {
	t.Helper()
	want, is := wantedCase(tree)
	if is {
		wantSound(t, what, tree, want)
	} else {
		wantUnsound(t, what, tree)
	}
	return is
}

// wantByKey tells promise 7 of a sound tree.
func wantByKey(t *testing.T, what string, tree impl.Tree) {
	t.Helper()
	list := impl.PairsIn(tree)
	for i := 1; i < len(list); i++ {
		if list[i-1].Key >= list[i].Key {
			t.Fatalf("%s: not by key: %v", what, list)
		}
	}
	book := bookOf(list)
	for key := range int64(impl.MaxKey + 1) {
		want, there := book[key]
		if got, is := impl.Found(tree, key); got != want || is != there {
			t.Fatalf("%s: key %d is found: %d, %v, but is in it: %d, %v: %+v", what, key, got, is, want, there, tree)
		}
	}
}

func TestWhatIsInASoundTreeIsFound(t *testing.T) {
	for what, c := range soundTrees() {
		wantByKey(t, what, c.tree)
	}
	draw := drawsFrom(7)
	told := 0
	for i := range 1000 {
		what := fmt.Sprint("drawn tree ", i)
		tree, leaves := drawnSound(draw)
		if !wantAsTold(t, what, tree) {
			t.Fatalf("%s: not sound: %+v", what, tree)
		}
		wantByKey(t, what, tree)
		list := []impl.Pair{}
		for _, n := range leaves {
			list = append(list, n.Pairs...)
		}
		wantPairs(t, impl.PairsIn(tree), list)
		if impl.ToldIn(tree) && tree.Nodes[tree.Root].Level > 0 {
			told++
		}
	}
	if told < 20 || told > 980 {
		t.Fatal("told of", told)
	}
}

// eachChange gives the tree with one number in it changed, for many numbers; it is as it was in the end.
func eachChange(tree impl.Tree, try func(what string)) {
	count := int64(len(tree.Nodes))
	change := func(what string, place *int64, values ...int64) {
		was := *place
		for _, value := range values {
			*place = value
			try(fmt.Sprint(what, " ", was, " is ", value))
		}
		*place = was
	}
	numbers := append(upTo(count), -1, count)
	change("root", &tree.Root, numbers...)
	for at := range tree.Nodes {
		n := &tree.Nodes[at]
		what := fmt.Sprint("of node ", at, ": ")
		change(what+"level", &n.Level, -1, 0, 1, 2, 3, impl.MaxLevel+1)
		change(what+"high", &n.High, -1, 0, 1, n.High-1, n.High+1, n.High+9, n.High-9, 30, 40, impl.MaxKey, impl.MaxKey+1)
		change(what+"right", &n.Right, numbers...)
		change(what+"owner", &n.Owner, 0, 1, impl.MaxTasks+1)
		for i := range n.Pairs {
			p := &n.Pairs[i]
			change(what+"key", &p.Key, -1, 0, 1, p.Key-1, p.Key+1, p.Key+9, p.Key-9, 30, 40, impl.MaxKey)
			change(what+"value", &p.Value, append(numbers, p.Value+1, impl.MaxValue+1)...)
		}
	}
}

// TestEachNumberChanged compares with the second way, and asks what is found wherever a tree is sound still.
func TestEachNumberChanged(t *testing.T) {
	still, not := 0, 0
	for what, c := range soundTrees() {
		if len(c.tree.Nodes) > 12 {
			continue
		}
		tree := spareTree(c.tree)
		eachChange(tree, func(change string) {
			if wantAsTold(t, what+": "+change, tree) {
				wantByKey(t, what+": "+change, tree)
				still++
			} else {
				not++
			}
		})
		wantTree(t, tree, c.tree)
	}
	if still < 100 || not < 1000 {
		t.Fatal(still, not)
	}
}

// TestTwoNumbersChanged draws two changes at once, so that one may make up for the other.
func TestTwoNumbersChanged(t *testing.T) {
	draw := drawsFrom(4)
	still := 0
	for i := range 20000 {
		tree, _ := drawnSound(draw)
		for range 2 {
			changeDrawn(draw, tree)
		}
		what := fmt.Sprint("drawn tree ", i)
		if wantAsTold(t, what, tree) {
			wantByKey(t, what, tree)
			still++
		}
	}
	if still < 1000 || still > 15000 {
		t.Fatal(still)
	}
}

// changeDrawn changes one number of one node.
func changeDrawn(draw func(int64) int64, tree impl.Tree) {
	count := int64(len(tree.Nodes))
	n := &tree.Nodes[draw(count)]
	by := draw(3) - 1
	switch draw(5) {
	case 0:
		n.High += by
	case 1:
		n.Right = draw(count)
	case 2:
		n.Level += by
	default:
		if len(n.Pairs) == 0 {
			return
		}
		p := &n.Pairs[draw(int64(len(n.Pairs)))]
		p.Key += by
		p.Value = (p.Value + draw(2)) % count
	}
}

// allTreesOfSoundness are sound trees, right ones that are not, and wrong ones.
func allTreesOfSoundness() map[string]impl.Tree {
	trees := unsoundTrees()
	for what, c := range soundTrees() {
		trees["sound: "+what] = c.tree
	}
	for what, c := range rightTrees() {
		trees["right: "+what] = c.tree
	}
	for why, tree := range wrongTrees() {
		trees["wrong: "+why] = tree
	}
	return trees
}

func TestArgumentsOfSoundnessStay(t *testing.T) {
	for _, was := range allTreesOfSoundness() {
		arg := spareTree(was)
		impl.Sound(arg)
		wantTreeStayed(t, arg, was)
		impl.PairsIn(arg)
		wantTreeStayed(t, arg, was)
		impl.ToldIn(arg)
		wantTreeStayed(t, arg, was)
	}
}

// TestPairsInAreNewMemory writes over one of argument and answer, and then looks at the other.
func TestPairsInAreNewMemory(t *testing.T) {
	for what, was := range allTreesOfSoundness() {
		arg := spareTree(was)
		want, _ := wantedCase(was)
		kept := impl.PairsIn(arg)
		scribble(impl.PairsIn(arg))
		wantTreeStayed(t, arg, was)
		wantPairs(t, kept, want.pairs)
		wantPairs(t, impl.PairsIn(arg), want.pairs)
		scribbleTree(arg)
		if !slices.Equal(kept, want.pairs) {
			t.Fatalf("%s: the answer has memory of the argument: %v", what, kept)
		}
	}
}

// TestSpareRoomIsNotSound: what stands behind the nodes and behind their pairs is not there, neither to help nor to harm.
func TestSpareRoomIsNotSound(t *testing.T) {
	for what, c := range soundTrees() {
		wantSound(t, what, spareTree(c.tree), c)
	}
	for why, tree := range unsoundTrees() {
		wantUnsound(t, why, spareTree(tree))
	}
	kids := roomBehind([]impl.Pair{pair(0, 2)}, pair(9, 1))
	tree := changed(twoLeaves(), 0, func(n *impl.Node) { n.Pairs = kids })
	wantSound(t, "a kid behind the others", tree, soundCase{pairs: pairsOfTwoLeaves()})
	tree = treeOf(0, impl.Node{High: 9, Right: 1}, endLeaf(roomBehind([]impl.Pair{pair(9, 90)}, pair(10, 91))...))
	wantSound(t, "a pair behind the others", tree, soundCase{pairs: []impl.Pair{pair(9, 90)}, told: true})
	leaves := roomBehind([]impl.Node{{High: 9, Right: 1}}, endLeaf(pair(9, 90)))
	wantUnsound(t, "a leaf behind the others", treeOf(0, leaves...))
	wantUnsound(t, "a root behind the others", treeOf(1, leaves...))
}
