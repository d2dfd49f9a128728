package tests

import (
	"fmt"
	"testing"

	"loop.example/g00796/impl"
)

// leaf and inner are right nodes, bounded, with something in each field.
func leaf() impl.Node {
	return impl.Node{Pairs: []impl.Pair{pair(2, 999), pair(5, 0), pair(9, 40)}, High: 20, Right: 7, Owner: 3}
}

func inner() impl.Node {
	return impl.Node{Level: 2, Pairs: []impl.Pair{pair(2, 39), pair(5, 0), pair(9, 11)}, High: 20, Right: 7, Owner: 3}
}

// last is the node without a bound, and so without a node to its right.
func last(n impl.Node) impl.Node {
	n.High, n.Right = -1, -1
	return n
}

func withPairs(n impl.Node, list ...impl.Pair) impl.Node {
	n.Pairs = list
	return n
}

func withHigh(n impl.Node, high int64) impl.Node {
	n.High = high
	return n
}

func withRight(n impl.Node, right int64) impl.Node {
	n.Right = right
	return n
}

func withLevel(n impl.Node, level int64) impl.Node {
	n.Level = level
	return n
}

func withOwner(n impl.Node, owner int64) impl.Node {
	n.Owner = owner
	return n
}

// rightNodes are NodeOk.
func rightNodes() map[string]impl.Node {
	nodes := map[string]impl.Node{
		"leaf":                       leaf(),
		"inner":                      inner(),
		"last leaf":                  last(leaf()),
		"last inner":                 last(inner()),
		"new":                        {High: -1, Right: -1},
		"leaf without pairs":         withPairs(leaf()),
		"leaf with an empty list":    withPairs(leaf(), []impl.Pair{}...),
		"leaf of one pair":           withPairs(leaf(), pair(0, 999)),
		"inner of one pair":          withPairs(inner(), pair(0, 39)),
		"inner of one, key 99":       last(withPairs(inner(), pair(99, 0))),
		"full leaf":                  withPairs(leaf(), rising(impl.Fan, 0, 1)...),
		"full inner":                 withPairs(inner(), rising(impl.Fan, 3, 5)...),
		"full last inner":            last(withPairs(inner(), rising(impl.Fan, 96, 1)...)),
		"all keys below high 1":      withHigh(withPairs(leaf(), pair(0, 1)), 1),
		"nothing below high 1":       withHigh(withPairs(leaf()), 1),
		"inner below high 1":         withHigh(withPairs(inner(), pair(0, 1)), 1),
		"high MaxKey":                withHigh(leaf(), impl.MaxKey),
		"high MaxKey and 1":          withHigh(leaf(), impl.MaxKey+1),
		"inner high MaxKey and 1":    withHigh(inner(), impl.MaxKey+1),
		"high 1 more than the last":  withHigh(leaf(), 10),
		"inner high just more":       withHigh(inner(), 10),
		"key 99 below high 100":      withHigh(withPairs(leaf(), pair(99, 1)), 100),
		"leaf values at both limits": withPairs(leaf(), pair(0, 0), pair(1, impl.MaxValue)),
		"kids at both limits":        withPairs(inner(), pair(0, 0), pair(1, impl.MaxNodes-1)),
		"kids alike":                 withPairs(inner(), pair(0, 4), pair(1, 4)),
	}
	for owner := range int64(impl.MaxTasks + 1) {
		nodes[fmt.Sprint("leaf of owner ", owner)] = withOwner(leaf(), owner)
		nodes[fmt.Sprint("last inner of owner ", owner)] = last(withOwner(inner(), owner))
	}
	for level := range int64(impl.MaxLevel + 1) {
		nodes[fmt.Sprint("bounded of level ", level)] = withLevel(inner(), level)
		nodes[fmt.Sprint("last of level ", level)] = last(withLevel(inner(), level))
	}
	for at := range int64(impl.MaxNodes) {
		nodes[fmt.Sprint("leaf left of ", at)] = withRight(leaf(), at)
		nodes[fmt.Sprint("inner left of ", at)] = withRight(inner(), at)
	}
	return nodes
}

// wrongNodes are not NodeOk, each for one reason.
func wrongNodes() map[string]impl.Node {
	nodes := map[string]impl.Node{
		"zero":                           {},
		"inner without pairs":            withPairs(inner()),
		"last inner without pairs":       last(withPairs(inner())),
		"lowest inner without pairs":     withLevel(withPairs(inner()), 1),
		"inner with an empty list":       withPairs(inner(), []impl.Pair{}...),
		"leaf of one pair too many":      withPairs(leaf(), rising(impl.Fan+1, 0, 1)...),
		"last leaf of one too many":      last(withPairs(leaf(), rising(impl.Fan+1, 0, 1)...)),
		"inner of one pair too many":     withPairs(inner(), pair(0, 1), pair(1, 1), pair(2, 1), pair(3, 1), pair(4, 1)),
		"leaf of as many as in a book":   last(withPairs(leaf(), rising(impl.MaxPairs, 0, 1)...)),
		"high is the last key":           withHigh(leaf(), 9),
		"high is the last key of inner":  withHigh(inner(), 9),
		"high is the only key":           withHigh(withPairs(leaf(), pair(6, 1)), 6),
		"high less than the last key":    withHigh(leaf(), 8),
		"high is the middle key":         withHigh(leaf(), 5),
		"high is the first key":          withHigh(inner(), 2),
		"high less than all keys":        withHigh(inner(), 1),
		"key 99 and high 99":             withHigh(withPairs(leaf(), pair(99, 1)), 99),
		"no bound but a right":           withHigh(leaf(), -1),
		"no bound but right 0":           withHigh(withRight(leaf(), 0), -1),
		"no bound but a right, inner":    withHigh(inner(), -1),
		"a bound but no right":           withRight(leaf(), -1),
		"a bound but no right, inner":    withRight(inner(), -1),
		"high 1 but no right":            withHigh(withRight(withPairs(leaf()), -1), 1),
		"high MaxKey and 1, no right":    withHigh(withRight(leaf(), -1), impl.MaxKey+1),
		"nothing below high 0":           withHigh(withPairs(leaf()), 0),
		"high 0 and right -1":            withHigh(withRight(withPairs(leaf()), -1), 0),
		"nothing below high -2":          withHigh(withPairs(leaf()), -2),
		"high -2 and right -1":           withHigh(withRight(withPairs(leaf()), -1), -2),
		"high -2 and right -2":           withHigh(withRight(withPairs(leaf()), -2), -2),
		"high -1 and right -2":           withHigh(withRight(leaf(), -2), -1),
		"high -1 and right MaxNodes":     withHigh(withRight(leaf(), impl.MaxNodes), -1),
		"high far too little, right -1":  withHigh(withRight(withPairs(leaf()), -1), least),
		"high far too large, right -1":   withHigh(withRight(leaf(), -1), most),
		"last leaf with wrong values":    last(withPairs(leaf(), pair(3, impl.MaxValue+1))),
		"last inner with a kid too high": last(withPairs(inner(), pair(3, impl.MaxNodes))),
	}
	addOutOfRange(nodes)
	addWrongPairs(nodes)
	return nodes
}

// addOutOfRange adds, of leaves and of inner nodes, those with one number that passes its limit.
func addOutOfRange(nodes map[string]impl.Node) {
	for _, level := range []int64{least, -2, -1, impl.MaxLevel + 1, impl.MaxLevel + 2, most} {
		nodes[fmt.Sprint("level ", level)] = withLevel(inner(), level)
		nodes[fmt.Sprint("last, level ", level)] = last(withLevel(inner(), level))
	}
	for _, high := range []int64{least, -100, impl.MaxKey + 2, impl.MaxKey + 3, most} {
		nodes[fmt.Sprint("leaf, high ", high)] = withHigh(leaf(), high)
		nodes[fmt.Sprint("leaf without pairs, high ", high)] = withHigh(withPairs(leaf()), high)
		nodes[fmt.Sprint("inner, high ", high)] = withHigh(inner(), high)
	}
	for _, right := range []int64{least, -2, impl.MaxNodes, impl.MaxNodes + 1, most} {
		nodes[fmt.Sprint("leaf, right ", right)] = withRight(leaf(), right)
		nodes[fmt.Sprint("inner, right ", right)] = withRight(inner(), right)
		nodes[fmt.Sprint("last leaf, right ", right)] = withRight(last(leaf()), right)
	}
	for _, owner := range []int64{least, -2, -1, impl.MaxTasks + 1, impl.MaxTasks + 2, most} {
		nodes[fmt.Sprint("leaf, owner ", owner)] = withOwner(leaf(), owner)
		nodes[fmt.Sprint("last inner, owner ", owner)] = last(withOwner(inner(), owner))
	}
}

// addWrongPairs adds nodes whose pairs are not PairsOk, and kids that no node can be.
func addWrongPairs(nodes map[string]impl.Node) {
	for why, list := range wrongLists() {
		for level := range int64(impl.MaxLevel + 1) {
			n := last(withLevel(inner(), level))
			n.Pairs = list
			nodes[fmt.Sprint("level ", level, ", pairs: ", why)] = n
		}
	}
	for _, kid := range []int64{least, -1, impl.MaxNodes, impl.MaxNodes + 1, impl.MaxValue, most} {
		for i := range inner().Pairs {
			for level := int64(1); level <= impl.MaxLevel; level++ {
				n := withLevel(inner(), level)
				n.Pairs[i].Value = kid
				nodes[fmt.Sprint("level ", level, ", kid ", kid, " at ", i)] = n
			}
		}
	}
}

func TestLimitsOfNodes(t *testing.T) {
	if impl.MaxLevel != 6 || impl.Fan != 4 || impl.MaxNodes != 40 || impl.MaxTasks != 6 {
		t.Fatal(impl.MaxLevel, impl.Fan, impl.MaxNodes, impl.MaxTasks)
	}
}

func TestNodeOk(t *testing.T) {
	for what, n := range rightNodes() {
		if !impl.NodeOk(n) {
			t.Errorf("%s: refused: %+v", what, n)
		}
	}
	for why, n := range wrongNodes() {
		if impl.NodeOk(n) {
			t.Errorf("%s: accepted: %+v", why, n)
		}
	}
}

// TestHighAndRightTogether tries every High and Right about their limits beside each other.
func TestHighAndRightTogether(t *testing.T) {
	for high := int64(-3); high <= impl.MaxKey+3; high++ {
		for right := int64(-3); right <= impl.MaxNodes+3; right++ {
			bounded := high > 0 && high < 101 && right > -1 && right < 40
			want := bounded || high == -1 && right == -1
			if n := (impl.Node{High: high, Right: right}); impl.NodeOk(n) != want {
				t.Fatalf("NodeOk(%+v) = %v", n, !want)
			}
		}
	}
}

func TestWithin(t *testing.T) {
	for what, n := range rightNodes() {
		for _, key := range askedKeys() {
			want := true
			if n.High != -1 {
				want = n.High > key
			}
			if impl.Within(n, key) != want {
				t.Fatalf("%s: Within(%+v, %d) = %v", what, n, key, !want)
			}
		}
	}
}

func TestWithinAboutHigh(t *testing.T) {
	for high := int64(1); high <= impl.MaxKey+1; high++ {
		n := impl.Node{High: high}
		if !impl.Within(n, high-1) || impl.Within(n, high) || impl.Within(n, high+1) {
			t.Fatal(high)
		}
	}
}

// TestKeyIsWithinOneOfARow goes to the right as a link tells: each key comes to one node, whose low it is not less than.
func TestKeyIsWithinOneOfARow(t *testing.T) {
	row := []impl.Node{
		{Pairs: []impl.Pair{pair(0, 5)}, High: 1, Right: 1},
		{Pairs: []impl.Pair{pair(1, 5), pair(19, 6)}, High: 20, Right: 2, Owner: 1},
		{High: 21, Right: 3},
		{Pairs: rising(impl.Fan, 21, 20), High: impl.MaxKey, Right: 4},
		{Pairs: []impl.Pair{pair(99, 1)}, High: -1, Right: -1, Owner: 6},
	}
	for key := range int64(impl.MaxKey + 1) {
		low, homes := int64(0), 0
		for at := int64(0); at != -1; at = row[at].Right {
			if key >= low && impl.Within(row[at], key) {
				homes++
			}
			if _, there := impl.ValueAt(row[at].Pairs, key); there && (key < low || !impl.Within(row[at], key)) {
				t.Fatalf("pair of key %d stands in node %d", key, at)
			}
			low = row[at].High
		}
		if homes != 1 {
			t.Fatalf("key %d is within %d nodes", key, homes)
		}
	}
}

// TestWithinOrToTheRight tells promise 2 of each right node: who is not within it has somewhere to go.
func TestWithinOrToTheRight(t *testing.T) {
	for what, n := range rightNodes() {
		for _, key := range askedKeys() {
			canGo := n.Right >= 0 && n.High >= 1 && key >= n.High
			if impl.Within(n, key) == canGo {
				t.Fatalf("%s: key %d of %+v", what, key, n)
			}
		}
	}
}

// wantedKid goes from the last pair back to the first one.
func wantedKid(n impl.Node, key int64) int64 {
	if n.Level == 0 {
		return -1
	}
	for i := len(n.Pairs) - 1; i > 0; i-- {
		if n.Pairs[i].Key <= key {
			return n.Pairs[i].Value
		}
	}
	return n.Pairs[0].Value
}

func TestKidFor(t *testing.T) {
	for what, n := range rightNodes() {
		for _, key := range askedKeys() {
			if got := impl.KidFor(n, key); got != wantedKid(n, key) {
				t.Fatalf("%s: KidFor(%+v, %d) = %d", what, n, key, got)
			}
		}
	}
}

func TestKidForByHand(t *testing.T) {
	full := withPairs(inner(), pair(3, 30), pair(7, 31), pair(8, 32), pair(15, 33))
	cases := map[int64]int64{
		least: 30, -1: 30, 0: 30, 2: 30, 3: 30, 4: 30, 6: 30, 7: 31, 8: 32, 9: 32, 14: 32, 15: 33,
		16: 33, 19: 33, 20: 33, 21: 33, impl.MaxKey: 33, impl.MaxKey + 1: 33, most: 33,
	}
	for key, kid := range cases {
		if got := impl.KidFor(full, key); got != kid {
			t.Errorf("bounded: key %d: %d, want %d", key, got, kid)
		}
		if got := impl.KidFor(last(full), key); got != kid {
			t.Errorf("last: key %d: %d, want %d", key, got, kid)
		}
		if got := impl.KidFor(withLevel(full, 0), key); got != -1 {
			t.Errorf("a leaf has a kid for %d: %d", key, got)
		}
		if got := impl.KidFor(withPairs(full, pair(9, 12)), key); got != 12 {
			t.Errorf("the only kid is not that for %d: %d", key, got)
		}
	}
}

func TestWrongNodesHaveNoKeysAndNoKids(t *testing.T) {
	for why, n := range wrongNodes() {
		for _, key := range askedKeys() {
			if impl.Within(n, key) {
				t.Fatalf("%s: Within(%+v, %d)", why, n, key)
			}
			if got := impl.KidFor(n, key); got != -1 {
				t.Fatalf("%s: KidFor(%+v, %d) = %d", why, n, key, got)
			}
		}
	}
}

func TestArgumentsOfNodesStay(t *testing.T) {
	for _, nodes := range []map[string]impl.Node{rightNodes(), wrongNodes()} {
		for _, n := range nodes {
			was := append([]impl.Pair{}, n.Pairs...)
			n.Pairs = withSpare(n.Pairs)
			for _, key := range askedKeys() {
				impl.NodeOk(n)
				impl.Within(n, key)
				impl.KidFor(n, key)
			}
			wantStayed(t, n.Pairs, was)
		}
	}
}

// TestSpareRoomOfNodesIsNotRead: what stands behind the list is none of the node's.
func TestSpareRoomOfNodesIsNotRead(t *testing.T) {
	for what, n := range rightNodes() {
		spare := n
		spare.Pairs = withSpare(n.Pairs)
		for _, key := range askedKeys() {
			if !impl.NodeOk(spare) || impl.Within(spare, key) != impl.Within(n, key) || impl.KidFor(spare, key) != impl.KidFor(n, key) {
				t.Fatalf("%s: key %d of %+v", what, key, n)
			}
		}
	}
}
