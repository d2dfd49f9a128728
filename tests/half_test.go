package tests

import (
	"fmt"
	"slices"
	"testing"

	"loop.example/g00796/impl"
)

// fullLeaf and fullInner are right nodes without room, bounded, with something in each field, and keys free at each place.
func fullLeaf() impl.Node {
	return withPairs(leaf(), pair(2, 999), pair(5, 0), pair(9, 40), pair(14, 7))
}

func fullInner() impl.Node {
	return withPairs(inner(), pair(2, 39), pair(5, 0), pair(9, 11), pair(14, 7))
}

// halves is what Halves answers.
type halves struct {
	lower, upper impl.Node
	is           bool
}

func halvesOf(n impl.Node, p impl.Pair, at int64) halves {
	lower, upper, is := impl.Halves(n, p, at)
	return halves{lower, upper, is}
}

func wantHalves(t *testing.T, what string, n impl.Node, p impl.Pair, at int64, want halves) {
	t.Helper()
	got := halvesOf(n, p, at)
	if got.is != want.is || !sameNode(got.lower, want.lower) || !sameNode(got.upper, want.upper) {
		t.Fatalf("%s: Halves(%+v, %v, %d) = %+v, want %+v", what, n, p, at, got, want)
	}
}

// wantNoHalves fails unless the answer is the fixed one: the zero Nodes and false.
func wantNoHalves(t *testing.T, what string, n impl.Node, p impl.Pair, at int64) {
	t.Helper()
	wantHalves(t, what, n, p, at, halves{})
}

// wantedHalves puts the pairs of a right node and p into a book, and reads them out by key.
func wantedHalves(n impl.Node, p impl.Pair, at int64) halves {
	limit := int64(1000)
	if n.Level > 0 {
		limit = 40
	}
	book := bookOf(n.Pairs)
	_, there := book[p.Key]
	switch {
	case len(book) != 4, there, n.High != -1 && p.Key >= n.High, p.Key < 0, p.Key > 99, p.Value < 0, p.Value >= limit, at < 0, at >= 40:
		return halves{}
	}
	book[p.Key] = p.Value
	list := pairsOf(book)
	return halves{
		impl.Node{Level: n.Level, Pairs: list[:3], High: list[3].Key, Right: at, Owner: n.Owner},
		impl.Node{Level: n.Level, Pairs: list[3:], High: n.High, Right: n.Right},
		true}
}

// fullNodes are right nodes with Fan pairs.
func fullNodes() map[string]impl.Node {
	nodes := map[string]impl.Node{
		"leaf":                    fullLeaf(),
		"inner":                   fullInner(),
		"last leaf":               last(fullLeaf()),
		"last inner":              last(fullInner()),
		"leaf of nobody":          withOwner(fullLeaf(), 0),
		"last inner of nobody":    last(withOwner(fullInner(), 0)),
		"free ahead and behind":   last(withPairs(leaf(), rising(impl.Fan, 1, 1)...)),
		"free behind only":        last(withPairs(inner(), rising(impl.Fan, 0, 1)...)),
		"free ahead only":         last(withPairs(leaf(), rising(impl.Fan, 96, 1)...)),
		"free in the middle only": withHigh(withPairs(inner(), pair(0, 1), pair(1, 2), pair(98, 3), pair(99, 4)), 100),
		"no key free":             withHigh(withPairs(leaf(), rising(impl.Fan, 0, 1)...), 4),
		"kids alike":              withPairs(fullInner(), pair(2, 4), pair(5, 4), pair(9, 4), pair(14, 4)),
		"high MaxKey":             withHigh(fullLeaf(), impl.MaxKey),
		"high MaxKey and 1":       withHigh(fullInner(), impl.MaxKey+1),
		"high just more":          withHigh(fullLeaf(), 15),
		"left of 0":               withRight(fullLeaf(), 0),
		"left of the last":        withRight(fullInner(), impl.MaxNodes-1),
	}
	for owner := range int64(impl.MaxTasks + 1) {
		nodes[fmt.Sprint("leaf of owner ", owner)] = withOwner(fullLeaf(), owner)
		nodes[fmt.Sprint("last inner of owner ", owner)] = last(withOwner(fullInner(), owner))
	}
	for level := range int64(impl.MaxLevel + 1) {
		nodes[fmt.Sprint("bounded of level ", level)] = withLevel(fullInner(), level)
		nodes[fmt.Sprint("last of level ", level)] = last(withLevel(fullInner(), level))
	}
	return nodes
}

// wrongFullNodes have Fan pairs but are not right, each for one reason; most of them have room for the key 4 between two others.
func wrongFullNodes() map[string]impl.Node {
	nodes := map[string]impl.Node{
		"alike":                     withPairs(leaf(), pair(2, 0), pair(5, 0), pair(5, 0), pair(9, 0)),
		"falls":                     withPairs(leaf(), pair(2, 0), pair(9, 0), pair(5, 0), pair(14, 0)),
		"falls at the start":        withPairs(leaf(), pair(5, 0), pair(2, 0), pair(9, 0), pair(14, 0)),
		"falls at the end":          withPairs(leaf(), pair(2, 0), pair(5, 0), pair(14, 0), pair(9, 0)),
		"key -1":                    withPairs(leaf(), pair(-1, 0), pair(5, 0), pair(9, 0), pair(14, 0)),
		"key past limit":            last(withPairs(leaf(), pair(2, 0), pair(5, 0), pair(9, 0), pair(100, 0))),
		"value past limit":          withPairs(leaf(), pair(2, 0), pair(5, 0), pair(9, 1000), pair(14, 0)),
		"value -1":                  withPairs(leaf(), pair(2, 0), pair(5, 0), pair(9, 0), pair(14, -1)),
		"kid past limit":            withPairs(inner(), pair(2, 40), pair(5, 0), pair(9, 0), pair(14, 0)),
		"last kid past limit":       withPairs(inner(), pair(2, 0), pair(5, 0), pair(9, 0), pair(14, 40)),
		"one pair too many":         withPairs(leaf(), pair(2, 0), pair(5, 0), pair(9, 0), pair(14, 0), pair(16, 0)),
		"high is the last key":      withHigh(fullLeaf(), 14),
		"high is the middle key":    withHigh(fullInner(), 9),
		"high between":              withHigh(fullLeaf(), 6),
		"high 0":                    withHigh(fullLeaf(), 0),
		"high -2":                   withHigh(fullLeaf(), -2),
		"high too large":            withHigh(fullLeaf(), 101),
		"no bound but a right":      withHigh(fullInner(), -1),
		"a bound but no right":      withRight(fullInner(), -1),
		"right too large":           withRight(fullLeaf(), 40),
		"right -2":                  withRight(last(fullLeaf()), -2),
		"a number of all that goes": {Level: most, Pairs: fullLeaf().Pairs, High: most, Right: most, Owner: most},
		"the least of all":          {Level: least, Pairs: fullLeaf().Pairs, High: least, Right: least, Owner: least},
	}
	for _, level := range []int64{least, -1, 7, most} {
		nodes[fmt.Sprint("level ", level)] = withLevel(fullInner(), level)
		nodes[fmt.Sprint("last, level ", level)] = last(withLevel(fullInner(), level))
	}
	for _, owner := range []int64{least, -1, 7, most} {
		nodes[fmt.Sprint("leaf, owner ", owner)] = withOwner(fullLeaf(), owner)
		nodes[fmt.Sprint("last inner, owner ", owner)] = last(withOwner(fullInner(), owner))
	}
	return nodes
}

// askedAts are all numbers of nodes, and some that can't be.
func askedAts() []int64 {
	ats := []int64{least, -2, -1, impl.MaxNodes, impl.MaxNodes + 1, most}
	for at := range int64(impl.MaxNodes) {
		ats = append(ats, at)
	}
	return ats
}

// askedValues are those about the limits of a number of a node, and of a value.
func askedValues() []int64 {
	return []int64{least, -1, 0, 1, 39, 40, 41, 998, 999, 1000, most}
}

func TestHalvesByHand(t *testing.T) {
	cases := []struct {
		key    int64
		lower  []impl.Pair
		upper  []impl.Pair
		middle int64
	}{
		{0, []impl.Pair{pair(0, 30), pair(2, 39), pair(5, 0)}, []impl.Pair{pair(9, 11), pair(14, 7)}, 9},
		{1, []impl.Pair{pair(1, 30), pair(2, 39), pair(5, 0)}, []impl.Pair{pair(9, 11), pair(14, 7)}, 9},
		{3, []impl.Pair{pair(2, 39), pair(3, 30), pair(5, 0)}, []impl.Pair{pair(9, 11), pair(14, 7)}, 9},
		{4, []impl.Pair{pair(2, 39), pair(4, 30), pair(5, 0)}, []impl.Pair{pair(9, 11), pair(14, 7)}, 9},
		{6, []impl.Pair{pair(2, 39), pair(5, 0), pair(6, 30)}, []impl.Pair{pair(9, 11), pair(14, 7)}, 9},
		{8, []impl.Pair{pair(2, 39), pair(5, 0), pair(8, 30)}, []impl.Pair{pair(9, 11), pair(14, 7)}, 9},
		{10, []impl.Pair{pair(2, 39), pair(5, 0), pair(9, 11)}, []impl.Pair{pair(10, 30), pair(14, 7)}, 10},
		{13, []impl.Pair{pair(2, 39), pair(5, 0), pair(9, 11)}, []impl.Pair{pair(13, 30), pair(14, 7)}, 13},
		{15, []impl.Pair{pair(2, 39), pair(5, 0), pair(9, 11)}, []impl.Pair{pair(14, 7), pair(15, 30)}, 14},
		{19, []impl.Pair{pair(2, 39), pair(5, 0), pair(9, 11)}, []impl.Pair{pair(14, 7), pair(19, 30)}, 14},
	}
	for level := range int64(impl.MaxLevel + 1) {
		for _, c := range cases {
			n := withLevel(fullInner(), level)
			lower := impl.Node{Level: level, Pairs: c.lower, High: c.middle, Right: 12, Owner: 3}
			upper := impl.Node{Level: level, Pairs: c.upper, High: 20, Right: 7}
			wantHalves(t, "bounded", n, pair(c.key, 30), 12, halves{lower, upper, true})
			wantHalves(t, "last", last(n), pair(c.key, 30), 12, halves{lower, last(upper), true})
			lower.Owner = 0
			wantHalves(t, "of nobody", withOwner(n, 0), pair(c.key, 30), 12, halves{lower, upper, true})
		}
	}
}

func TestNoHalvesByHand(t *testing.T) {
	for _, key := range []int64{2, 5, 9, 14} {
		wantNoHalves(t, "a key that is there", fullLeaf(), pair(key, 1), 12)
		wantNoHalves(t, "a key that is there", last(fullInner()), pair(key, 1), 12)
	}
	for _, key := range []int64{20, 21, 98, 99} {
		wantNoHalves(t, "a key to the right", fullLeaf(), pair(key, 1), 12)
		wantNoHalves(t, "a key to the right", fullInner(), pair(key, 1), 12)
	}
	for _, value := range []int64{40, 41, 999} {
		for level := int64(1); level <= impl.MaxLevel; level++ {
			for _, key := range []int64{0, 4, 7, 10, 19} {
				wantNoHalves(t, "a kid that can't be", withLevel(fullInner(), level), pair(key, value), 12)
			}
		}
	}
	for _, at := range []int64{least, -2, -1, 40, 41, most} {
		wantNoHalves(t, "no number of a node", fullLeaf(), pair(4, 1), at)
		wantNoHalves(t, "no number of a node", last(fullInner()), pair(4, 1), at)
	}
}

// TestHalvesNeedFan takes pairs from the end of a full node, until none are left.
func TestHalvesNeedFan(t *testing.T) {
	for _, n := range []impl.Node{fullLeaf(), fullInner(), last(fullLeaf()), last(fullInner())} {
		for count := range impl.Fan {
			for _, key := range askedKeys() {
				wantNoHalves(t, "there is room", withPairs(n, n.Pairs[:count:count]...), pair(key, 1), 12)
			}
		}
	}
}

// TestHalvesOfAllKeys compares with the second way, also of right nodes that are not full.
func TestHalvesOfAllKeys(t *testing.T) {
	for _, nodes := range []map[string]impl.Node{fullNodes(), rightNodes()} {
		for what, n := range nodes {
			for _, key := range askedKeys() {
				for _, value := range askedValues() {
					p := pair(key, value)
					wantHalves(t, what, n, p, 12, wantedHalves(n, p, 12))
				}
			}
		}
	}
}

func TestHalvesAtAllNumbers(t *testing.T) {
	for what, n := range fullNodes() {
		for _, at := range askedAts() {
			for _, key := range []int64{0, 3, 7, 12, 14, 17, 20} {
				p := pair(key, 39)
				wantHalves(t, what, n, p, at, wantedHalves(n, p, at))
			}
		}
	}
}

// TestHalvesOfAllPlaces halves nodes of all sets of four keys out of the first ones, with and without a bound just behind them.
func TestHalvesOfAllPlaces(t *testing.T) {
	for bits := range 1 << 9 {
		list := []impl.Pair{}
		for key := range int64(9) {
			if bits>>key&1 == 1 {
				list = append(list, pair(key, 39-key))
			}
		}
		if len(list) != impl.Fan {
			continue
		}
		for key := range int64(12) {
			for _, n := range []impl.Node{withPairs(leaf(), list...), withPairs(inner(), list...)} {
				n.High = 10
				p := pair(key, 20)
				wantHalves(t, "bounded", n, p, 12, wantedHalves(n, p, 12))
				wantHalves(t, "last", last(n), p, 12, wantedHalves(last(n), p, 12))
			}
		}
	}
}

// TestBothHalvesHaveAllPairs tells promise 6 without telling who has which.
func TestBothHalvesHaveAllPairs(t *testing.T) {
	halvings := 0
	for what, n := range fullNodes() {
		for key := range int64(impl.MaxKey + 1) {
			p := pair(key, 21)
			got := halvesOf(n, p, 12)
			if !got.is {
				continue
			}
			halvings++
			count := map[impl.Pair]int{}
			for _, q := range append(append([]impl.Pair{}, got.lower.Pairs...), got.upper.Pairs...) {
				count[q]++
			}
			for _, q := range append([]impl.Pair{p}, n.Pairs...) {
				if count[q] != 1 {
					t.Fatalf("%s: %v: pair %v is there %d times: %+v", what, p, q, count[q], got)
				}
			}
			if len(count) != impl.Fan+1 {
				t.Fatalf("%s: %v: %d pairs: %+v", what, p, len(count), got)
			}
			if !impl.NodeOk(got.lower) || !impl.NodeOk(got.upper) || !impl.LowerOf(got.lower, got.upper) || impl.LowerOf(got.upper, got.lower) {
				t.Fatalf("%s: %v: %+v", what, p, got)
			}
		}
	}
	if halvings < 1000 {
		t.Fatal("only", halvings)
	}
}

// TestKeysGoOnToTheirHalf: who comes to the lower half finds his key's pair there, or goes to the right and finds it there.
func TestKeysGoOnToTheirHalf(t *testing.T) {
	for what, n := range fullNodes() {
		got := halvesOf(n, pair(7, 21), 1)
		if !got.is {
			continue
		}
		book := bookOf(append([]impl.Pair{pair(7, 21)}, n.Pairs...))
		for key := range int64(impl.MaxKey + 1) {
			home := got.lower
			if !impl.Within(home, key) {
				home = got.upper
			}
			if impl.Within(home, key) != impl.Within(n, key) {
				t.Fatalf("%s: key %d: %+v", what, key, got)
			}
			value, is := impl.ValueAt(home.Pairs, key)
			if want, there := book[key]; value != want || is != there {
				t.Fatalf("%s: key %d is %d, %v: %+v", what, key, value, is, got)
			}
		}
	}
}

func TestHalvesOfWrongNodes(t *testing.T) {
	for _, nodes := range []map[string]impl.Node{wrongFullNodes(), wrongNodes()} {
		for why, n := range nodes {
			if impl.NodeOk(n) {
				t.Fatalf("%s: accepted: %+v", why, n)
			}
			for _, key := range askedKeys() {
				wantNoHalves(t, why, n, pair(key, 1), 12)
			}
		}
	}
}

func TestHalvesWithWrongPairs(t *testing.T) {
	for what, n := range fullNodes() {
		for _, p := range wrongPairs() {
			wantNoHalves(t, what, n, p, 12)
		}
		for _, key := range askedKeys() {
			for _, value := range []int64{least, -1, impl.MaxValue + 1, most} {
				wantNoHalves(t, what, n, pair(key, value), 12)
			}
		}
	}
}

// TestHalvesAreNewMemory writes over one of argument and halves, and then looks at the others.
func TestHalvesAreNewMemory(t *testing.T) {
	for what, n := range fullNodes() {
		was := slices.Clone(n.Pairs)
		for _, key := range []int64{1, 3, 7, 12, 17} {
			want := wantedHalves(n, pair(key, 21), 12)
			if !want.is {
				continue
			}
			got := halvesOf(n, pair(key, 21), 12)
			scribble(got.lower.Pairs)
			wantPairs(t, got.upper.Pairs, want.upper.Pairs)
			wantPairs(t, n.Pairs, was)
			got = halvesOf(n, pair(key, 21), 12)
			scribble(got.upper.Pairs)
			wantPairs(t, got.lower.Pairs, want.lower.Pairs)
			wantPairs(t, n.Pairs, was)
			mine := withPairs(n, slices.Clone(n.Pairs)...)
			got = halvesOf(mine, pair(key, 21), 12)
			scribble(mine.Pairs)
			if !sameNode(got.lower, want.lower) || !sameNode(got.upper, want.upper) {
				t.Fatalf("%s: key %d: a half has the argument's memory: %+v", what, key, got)
			}
		}
	}
}

// TestHalvesHaveNoOthersBehind: what stands in the room behind a half is no pair of the other one.
func TestHalvesHaveNoOthersBehind(t *testing.T) {
	for what, n := range fullNodes() {
		got := halvesOf(n, pair(7, 21), 12)
		for _, half := range []impl.Node{got.lower, got.upper} {
			for _, p := range half.Pairs[len(half.Pairs):cap(half.Pairs)] {
				if p != (impl.Pair{}) {
					t.Fatalf("%s: %v stands behind %v", what, p, half.Pairs)
				}
			}
		}
	}
}

func TestArgumentsOfHalvesStay(t *testing.T) {
	for _, nodes := range []map[string]impl.Node{fullNodes(), rightNodes(), wrongFullNodes(), wrongNodes()} {
		for _, n := range nodes {
			was := append([]impl.Pair{}, n.Pairs...)
			n.Pairs = withSpare(n.Pairs)
			other := fullLeaf()
			other.Pairs = withSpare(other.Pairs)
			for _, key := range []int64{least, -1, 0, 3, 5, 7, 12, 17, 20, 99, 100, most} {
				for _, at := range []int64{least, -1, 12, impl.MaxNodes, most} {
					impl.Halves(n, pair(key, 21), at)
				}
			}
			impl.LowerOf(n, other)
			impl.LowerOf(other, n)
			impl.LowerOf(n, n)
			wantStayed(t, n.Pairs, was)
			wantStayed(t, other.Pairs, fullLeaf().Pairs)
		}
	}
}

// TestSpareRoomIsNotHalved: what stands behind the list is none of the node's, and comes into no half.
func TestSpareRoomIsNotHalved(t *testing.T) {
	for _, nodes := range []map[string]impl.Node{fullNodes(), rightNodes()} {
		for what, n := range nodes {
			spare := n
			spare.Pairs = withSpare(n.Pairs)
			for _, key := range askedKeys() {
				p := pair(key, 21)
				wantHalves(t, what, spare, p, 12, wantedHalves(n, p, 12))
			}
			for other, b := range rightNodes() {
				if impl.LowerOf(spare, b) != impl.LowerOf(n, b) || impl.LowerOf(b, spare) != impl.LowerOf(b, n) {
					t.Fatalf("LowerOf %s and %s", what, other)
				}
			}
		}
	}
}

func TestLowerOfByHand(t *testing.T) {
	low := withHigh(withPairs(leaf(), pair(2, 20), pair(5, 39)), 6)
	lowInner := withLevel(low, 3)
	cases := map[string]struct {
		a, b impl.Node
		want bool
	}{
		"a bound that is a key":         {low, withPairs(leaf(), pair(6, 1), pair(9, 1)), true},
		"a bound that is the only key":  {low, withPairs(leaf(), pair(6, 1)), true},
		"a bound less than each key":    {low, withPairs(leaf(), pair(7, 1), pair(9, 1)), true},
		"a bound more than one key":     {low, withPairs(leaf(), pair(5, 1), pair(9, 1)), false},
		"a bound more than each key":    {low, withPairs(leaf(), pair(1, 1), pair(4, 1)), false},
		"a bound between keys":          {low, withPairs(leaf(), pair(5, 1), pair(6, 1), pair(7, 1)), false},
		"no keys":                       {low, withPairs(leaf()), true},
		"no keys, last":                 {low, last(withPairs(leaf())), true},
		"no keys below the bound":       {low, withHigh(withPairs(leaf()), 1), true},
		"last of all":                   {low, last(withPairs(leaf(), pair(99, 1))), true},
		"no bound":                      {last(low), withPairs(leaf(), pair(9, 1)), false},
		"no bound, no keys":             {last(low), withPairs(leaf()), false},
		"no pairs at all":               {withHigh(withPairs(leaf()), 6), withPairs(leaf(), pair(6, 1)), true},
		"bound 1":                       {withHigh(withPairs(leaf()), 1), withPairs(leaf(), pair(1, 1)), true},
		"bound 1 and key 0":             {withHigh(withPairs(leaf()), 1), withPairs(leaf(), pair(0, 1)), false},
		"bound MaxKey":                  {withHigh(leaf(), 99), last(withPairs(leaf(), pair(99, 1))), true},
		"bound MaxKey and 1":            {withHigh(leaf(), 100), last(withPairs(leaf(), pair(99, 1))), false},
		"bound MaxKey and 1, no keys":   {withHigh(leaf(), 100), last(withPairs(leaf())), true},
		"itself":                        {low, low, false},
		"itself without pairs":          {withPairs(low), withPairs(low), true},
		"two levels":                    {low, withPairs(inner(), pair(6, 1)), false},
		"two levels the other way":      {lowInner, withPairs(leaf(), pair(6, 1)), false},
		"two levels, both above 0":      {lowInner, withPairs(inner(), pair(6, 1)), false},
		"inner of one level":            {lowInner, withLevel(withPairs(inner(), pair(6, 1)), 3), true},
		"inner, one key less":           {lowInner, withLevel(withPairs(inner(), pair(5, 1)), 3), false},
		"a leaf beside one level above": {low, withLevel(withPairs(inner(), pair(6, 1)), 1), false},
		"the first is not right":        {withOwner(low, 7), withPairs(leaf(), pair(6, 1)), false},
		"the second is not right":       {low, withOwner(withPairs(leaf(), pair(6, 1)), 7), false},
		"the second has five pairs":     {low, withPairs(leaf(), rising(5, 6, 1)...), false},
		"neither is right":              {impl.Node{}, impl.Node{}, false},
	}
	for what, c := range cases {
		if impl.LowerOf(c.a, c.b) != c.want {
			t.Errorf("%s: LowerOf(%+v, %+v) = %v", what, c.a, c.b, !c.want)
		}
	}
}

// TestLowerOfAllTwo asks of each two right nodes, key by key.
func TestLowerOfAllTwo(t *testing.T) {
	nodes := rightNodes()
	for what, n := range fullNodes() {
		nodes["full: "+what] = n
	}
	for whatA, a := range nodes {
		for whatB, b := range nodes {
			want := a.Level == b.Level && a.High != -1
			for _, p := range b.Pairs {
				want = want && p.Key >= a.High
			}
			if impl.LowerOf(a, b) != want {
				t.Fatalf("%s, %s: LowerOf(%+v, %+v) = %v", whatA, whatB, a, b, !want)
			}
		}
	}
}

func TestLowerOfAboutHigh(t *testing.T) {
	for high := int64(1); high <= impl.MaxKey+1; high++ {
		for key := range int64(impl.MaxKey + 1) {
			for level := range int64(2) {
				a := impl.Node{Level: level, Pairs: []impl.Pair{pair(0, 1)}, High: high, Right: 3}
				b := last(impl.Node{Level: level, Pairs: []impl.Pair{pair(key, 1)}})
				if impl.LowerOf(a, b) != (high <= key) {
					t.Fatal(level, high, key)
				}
			}
		}
	}
}

func TestLowerOfWrongNodes(t *testing.T) {
	for _, nodes := range []map[string]impl.Node{wrongFullNodes(), wrongNodes()} {
		for why, n := range nodes {
			for _, level := range []int64{0, n.Level} {
				beside := last(withLevel(withPairs(inner(), pair(99, 1)), level))
				below := withLevel(impl.Node{Pairs: []impl.Pair{pair(0, 1)}, High: 1}, level)
				if impl.LowerOf(n, beside) || impl.LowerOf(below, n) || impl.LowerOf(n, n) {
					t.Fatalf("%s: %+v", why, n)
				}
			}
		}
	}
}

// TestHalvesAgain puts drawn keys into a row of leaves, each of which is halved when it has no room.
func TestHalvesAgain(t *testing.T) {
	row := []impl.Node{{High: -1, Right: -1, Owner: 1}}
	book := map[int64]int64{}
	turn := int64(1)
	for len(row) < impl.MaxNodes {
		turn = (turn*1103515245 + 12345) % (1 << 31)
		key := turn / 64 % 100
		at := 0
		for !impl.Within(row[at], key) {
			at = int(row[at].Right)
		}
		p := pair(key, turn/64%1000)
		got := halvesOf(row[at], p, int64(len(row)))
		if got.is {
			row[at] = got.lower
			row = append(row, got.upper)
		} else {
			row[at].Pairs, _ = impl.Put(row[at].Pairs, p)
		}
		book[key] = p.Value
		if len(book) == impl.MaxKey+1 {
			break
		}
	}
	if len(row) < 20 {
		t.Fatal("only", len(row), "leaves")
	}
	all := []impl.Pair{}
	for at := int64(0); at != -1; at = row[at].Right {
		if !impl.NodeOk(row[at]) {
			t.Fatalf("%+v", row[at])
		}
		if right := row[at].Right; right != -1 && !impl.LowerOf(row[at], row[right]) {
			t.Fatalf("%+v is not lower than %+v", row[at], row[right])
		}
		all = append(all, row[at].Pairs...)
	}
	wantPairs(t, all, pairsOf(book))
	if len(all) != len(book) {
		t.Fatal(len(all), len(book))
	}
}
