package tests

import (
	"fmt"
	"slices"
	"testing"

	"loop.example/g00796/impl"
)

// handAt is a Hand that is called, with that Cur and those in its Stack.
func handAt(at int64, c impl.Call, cur int64, stack ...int64) impl.Hand {
	return impl.Hand{At: at, Call: c, Key: c.Key, Cur: cur, Stack: stack}
}

func wanting(h impl.Hand, want int64) impl.Hand {
	h.Want = want
	return h
}

func withKey(h impl.Hand, key int64) impl.Hand {
	h.Key = key
	return h
}

// downed is what DownStep answers.
type downed struct {
	tree impl.Tree
	hand impl.Hand
	is   bool
}

// refused is the answer where something is not as the chapter wants it.
var refused = downed{}

func wantDown(t *testing.T, what string, tree impl.Tree, task int64, h impl.Hand, want downed) {
	t.Helper()
	got, hand, is := impl.DownStep(tree, task, h)
	if is != want.is || !sameHand(hand, want.hand) {
		t.Fatalf("%s: DownStep by %d of %+v in %+v: %+v, %v, want %+v, %v", what, task, h, tree, hand, is, want.hand, want.is)
	}
	wantTree(t, got, want.tree)
}

// wantedDown asks chapters 2 and 3, and takes the table line by line.
func wantedDown(tree impl.Tree, task int64, h impl.Hand) downed {
	if !impl.TreeOk(tree) || task < 0 || task > 5 || !wantedHand(h) {
		return refused
	}
	for _, at := range append([]int64{h.Cur, h.Kid, h.Old, h.Next, h.New}, h.Stack...) {
		if at >= int64(len(tree.Nodes)) {
			return refused
		}
	}
	switch {
	case h.At == 1:
		h.At, h.Cur, h.Stack = 2, tree.Root, nil
		return downed{tree, h, true}
	case h.At == 2:
		return wantedAtDown(tree, h)
	case h.At == 3 && h.Call.Code != 1:
		if tree.Nodes[h.Cur].Owner > 0 {
			return downed{tree, h, false}
		}
		h.At = 4
		return downed{ownedBy(tree, h.Cur, task+1), h, true}
	}
	return refused
}

func wantedAtDown(tree impl.Tree, h impl.Hand) downed {
	next := wantedWay(tree, h.Cur, h.Key, h.Want)
	value, there := bookOf(tree.Nodes[h.Cur].Pairs)[h.Key]
	switch {
	case next.by == 0 || next.by == 2 && len(h.Stack) == 6:
		return refused
	case next.by == 2:
		h.Stack = slices.Concat(h.Stack, []int64{h.Cur})
		h.Cur = next.to
	case next.by == 1:
		h.Cur = next.to
	case h.Call.Code != 1:
		h.At = 3
	case there:
		h = impl.Hand{Reply: 1, Out: value}
	default:
		h = impl.Hand{Reply: 2}
	}
	return downed{tree, h, true}
}

func TestAtRootByHand(t *testing.T) {
	for _, c := range []impl.Call{get(12), put(12, 5), cut(12)} {
		for _, tree := range []impl.Tree{impl.NewTree(), allOf(3), twoLevels(), halvedRoot(), threeLevels()} {
			begun, _ := impl.Called(impl.Resting(impl.RpNo, 0), c)
			wantDown(t, "begun", tree, 1, begun, downed{tree, handAt(impl.AtDown, c, tree.Root), true})
		}
		for _, tree := range []impl.Tree{longWay(), allOf(2)} {
			was := filledHand(impl.AtRoot, c)
			want := onStack(filledHand(impl.AtDown, c))
			want.Cur = tree.Root
			wantDown(t, "all else stays", tree, 5, was, downed{tree, want, true})
			wantDown(t, "a full Stack", tree, 5, onStack(was, 1, 2, 3, 4, 5, 6), downed{tree, want, true})
		}
	}
}

// TestAtDownByHand goes to the right and down, which is the same whatever is asked.
func TestAtDownByHand(t *testing.T) {
	cases := []struct {
		what     string
		tree     impl.Tree
		cur, key int64
		stack    []int64
		to       int64
		then     []int64
	}{
		{"right from a leaf", halved(), 0, 9, nil, 1, nil},
		{"right from the halved leaf", halved(), 1, 30, nil, 3, nil},
		{"right, with one above", halved(), 1, 99, []int64{2}, 3, []int64{2}},
		{"right, by one node only", threeLevels(), 1, 99, []int64{4, 6}, 5, []int64{4, 6}},
		{"right from the halved root", halvedRoot(), 2, 9, nil, 4, nil},
		{"right from an inner node", threeLevels(), 6, 40, []int64{4}, 2, []int64{4}},
		{"right, a full stack", threeLevels(), 6, 99, []int64{4, 4, 4, 4, 4, 0}, 2, []int64{4, 4, 4, 4, 4, 0}},
		{"down to the first", halved(), 2, 8, nil, 0, []int64{2}},
		{"down to the second", halved(), 2, 9, nil, 1, []int64{2}},
		{"down to one that was halved", halved(), 2, 30, nil, 1, []int64{2}},
		{"down from the upper root", halvedRoot(), 4, 30, nil, 3, []int64{4}},
		{"down from the highest level", threeLevels(), 4, 39, nil, 6, []int64{4}},
		{"down from the middle one", threeLevels(), 6, 39, []int64{4}, 5, []int64{4, 6}},
		{"down, with several above", threeLevels(), 2, 70, []int64{7, 0, 0}, 3, []int64{7, 0, 0, 2}},
		{"down, one less than full", threeLevels(), 2, 69, []int64{1, 2, 3, 4, 5}, 0, []int64{1, 2, 3, 4, 5, 2}},
		{"down, less than the first key", backToRoot(), 1, 3, []int64{0}, 0, []int64{0, 1}},
	}
	for _, c := range cases {
		for _, call := range []impl.Call{get(c.key), put(c.key, 5), cut(c.key)} {
			h := handAt(impl.AtDown, call, c.cur, c.stack...)
			want := handAt(impl.AtDown, call, c.to, c.then...)
			wantDown(t, c.what, c.tree, 0, h, downed{c.tree, want, true})
		}
	}
}

// TestAtDownAndThereByHand has come where the Key would be.
func TestAtDownAndThereByHand(t *testing.T) {
	yes := func(out int64) impl.Hand { return impl.Hand{Reply: impl.RpYes, Out: out} }
	no := impl.Hand{Reply: impl.RpNo}
	cases := []struct {
		what     string
		tree     impl.Tree
		cur, key int64
		stack    []int64
		rests    impl.Hand
	}{
		{"nothing there", impl.NewTree(), 0, 0, nil, no},
		{"the first key, value 0", treeOf(0, endLeaf(pair(0, 0), pair(99, 999))), 0, 0, nil, yes(0)},
		{"the last key", treeOf(0, endLeaf(pair(0, 0), pair(99, 999))), 0, 99, nil, yes(999)},
		{"in between", treeOf(0, endLeaf(pair(0, 0), pair(99, 999))), 0, 98, nil, no},
		{"the first leaf", halved(), 0, 5, []int64{2}, yes(999)},
		{"the first leaf, not there", halved(), 0, 8, []int64{2}, no},
		{"the halved leaf", halved(), 1, 20, []int64{2}, yes(200)},
		{"the halved leaf, not there", halved(), 1, 29, []int64{2}, no},
		{"the upper half", halved(), 3, 30, []int64{2}, yes(300)},
		{"the upper half, not there", halved(), 3, 31, []int64{2}, no},
		{"less than all of a leaf", halved(), 3, 12, []int64{2}, no},
		{"several above", threeLevels(), 7, 39, []int64{4, 6, 5}, yes(390)},
		{"several above, not there", threeLevels(), 5, 29, []int64{4, 6}, no},
		{"a full stack", threeLevels(), 3, 70, []int64{1, 2, 3, 4, 5, 6}, yes(700)},
	}
	for _, c := range cases {
		h := handAt(impl.AtDown, get(c.key), c.cur, c.stack...)
		wantDown(t, c.what, c.tree, 3, h, downed{c.tree, c.rests, true})
		for _, call := range []impl.Call{put(c.key, 7), cut(c.key)} {
			h := handAt(impl.AtDown, call, c.cur, c.stack...)
			want := handAt(impl.AtLatch, call, c.cur, c.stack...)
			wantDown(t, c.what, c.tree, 3, h, downed{c.tree, want, true})
		}
	}
}

// TestKeyOfTheHand: it is the Hand's own Key that is looked for, not its Call's.
func TestKeyOfTheHand(t *testing.T) {
	for _, c := range []impl.Call{get(5), put(5, 55), cut(5)} {
		h := withKey(handAt(impl.AtDown, c, 1), 30)
		wantDown(t, "to the right", halved(), 0, h, downed{halved(), withKey(handAt(impl.AtDown, c, 3), 30), true})
		h = withKey(handAt(impl.AtDown, c, 2), 9)
		wantDown(t, "down", halved(), 0, h, downed{halved(), withKey(handAt(impl.AtDown, c, 1, 2), 9), true})
	}
	wantDown(t, "there", halved(), 0, withKey(handAt(impl.AtDown, get(5), 1), 12), downed{halved(), impl.Resting(impl.RpYes, 120), true})
	wantDown(t, "not there", halved(), 0, withKey(handAt(impl.AtDown, get(12), 1), 13), downed{halved(), impl.Resting(impl.RpNo, 0), true})
}

// TestAllElseStays: a Hand that goes on has all other fields as they were, one that rests has none of them.
func TestAllElseStays(t *testing.T) {
	tree := treeOf(2, leavesInARow(impl.MaxNodes)...)
	tree.Nodes[3] = endInner(3, pair(0, 7), pair(41, 8))
	tree.Nodes[7] = endInner(2, pair(0, 7), pair(41, 8))
	for _, c := range []impl.Call{get(9), put(9, 99), cut(9)} {
		h := filledHand(impl.AtDown, c)
		want := onStack(h, 39, 0, 8, 8, 3)
		want.Cur = 8
		wantDown(t, "down", tree, 1, h, downed{tree, want, true})
		h.Cur, want.Cur = 11, 12
		want.Stack = h.Stack
		wantDown(t, "to the right", tree, 1, h, downed{tree, want, true})
		h.Cur = 7
		want = h
		want.At = impl.AtLatch
		if c.Code == impl.OpGet {
			want = impl.Resting(impl.RpYes, 8)
		}
		wantDown(t, "there", tree, 1, h, downed{tree, want, true})
	}
}

func TestAtLatchByHand(t *testing.T) {
	for task := range int64(impl.MaxTasks) {
		for _, c := range []impl.Call{put(9, 99), cut(9)} {
			h := handAt(impl.AtLatch, c, 0, 4, 6)
			want := handAt(impl.AtCheck, c, 0, 4, 6)
			wantDown(t, "a leaf", threeLevels(), task, h, downed{ownedBy(threeLevels(), 0, task+1), want, true})
			h, want = filledHand(impl.AtLatch, c), filledHand(impl.AtCheck, c)
			wantDown(t, "all else stays", allOf(0), task, h, downed{ownedBy(allOf(0), 3, task+1), want, true})
			h, want = onStack(h, 1, 2, 3, 4, 5, 6), onStack(want, 1, 2, 3, 4, 5, 6)
			wantDown(t, "a full stack", allOf(0), task, h, downed{ownedBy(allOf(0), 3, task+1), want, true})
		}
	}
}

// TestAtLatchItWaits for each Owner, the task itself too, whether Cur is where the Key would be or not.
func TestAtLatchItWaits(t *testing.T) {
	for task := range int64(impl.MaxTasks) {
		for owner := int64(1); owner <= impl.MaxTasks; owner++ {
			for _, c := range []impl.Call{put(9, 99), cut(9)} {
				for cur := range int64(8) {
					tree := ownedBy(threeLevels(), cur, owner)
					h := handAt(impl.AtLatch, c, cur, 4, 6)
					wantDown(t, "it waits", tree, task, h, downed{tree, h, false})
					h = wanting(h, 1)
					wantDown(t, "it waits, want 1", tree, task, h, downed{tree, h, false})
				}
				h := filledHand(impl.AtLatch, c)
				wantDown(t, "as it is", allOf(owner), task, h, downed{allOf(owner), h, false})
			}
		}
	}
}

func TestAtLatchOfGetIsRefused(t *testing.T) {
	for owner := range int64(impl.MaxTasks + 1) {
		for task := range int64(impl.MaxTasks) {
			for key := range int64(impl.MaxKey + 1) {
				wantDown(t, "a leaf", ownedBy(impl.NewTree(), 0, owner), task, handAt(impl.AtLatch, get(key), 0), refused)
				wantDown(t, "filled", allOf(owner), task, withKey(filledHand(impl.AtLatch, get(9)), key), refused)
			}
		}
	}
}

// TestWantAbove is about wants of a level that is not the lowest.
func TestWantAbove(t *testing.T) {
	tree := threeLevels()
	for _, c := range []impl.Call{get(10), put(10, 5), cut(10)} {
		down := func(cur, want int64, stack ...int64) impl.Hand {
			return wanting(handAt(impl.AtDown, c, cur, stack...), want)
		}
		wantDown(t, "root, want 1", tree, 0, down(4, 1), downed{tree, down(6, 1, 4), true})
		wantDown(t, "root, want 3", tree, 0, down(4, 3), refused)
		wantDown(t, "inner, want 2", tree, 0, down(6, 2, 4), refused)
		wantDown(t, "leaf, want 1", tree, 0, down(5, 1, 4, 6), refused)
		wantDown(t, "leaf, want 6", tree, 0, down(5, 6), refused)
		wantDown(t, "leaf, to the right, want 6", tree, 0, down(1, 6), downed{tree, down(5, 6), true})
		here := downed{tree, down(6, 1, 4), true}
		here.hand.At = impl.AtLatch
		if c.Code == impl.OpGet {
			here.hand = impl.Resting(impl.RpYes, 5)
		}
		wantDown(t, "inner, want 1", tree, 0, down(6, 1, 4), here)
		if c.Code != impl.OpGet {
			latched := down(6, 1, 4)
			latched.At = impl.AtCheck
			wantDown(t, "latch, want 1", tree, 2, here.hand, downed{ownedBy(tree, 6, 3), latched, true})
		}
	}
	wantDown(t, "a get, want 1, not there", tree, 0, wanting(handAt(impl.AtDown, get(11), 6), 1), downed{tree, impl.Resting(impl.RpNo, 0), true})
}

// TestStacksAtDown tries Stacks of each length that may be: only down, and only of the greatest one, there is no room.
func TestStacksAtDown(t *testing.T) {
	for count := range impl.MaxLevel + 1 {
		stack := []int64{5, 0, 7, 7, 3, 6}[:count]
		for _, c := range []impl.Call{get(12), put(12, 5), cut(12)} {
			down := downed{threeLevels(), handAt(impl.AtDown, c, 5, slices.Concat(stack, []int64{6})...), true}
			if count == impl.MaxLevel {
				down = refused
			}
			wantDown(t, "down", threeLevels(), 0, handAt(impl.AtDown, c, 6, stack...), down)
			right := downed{threeLevels(), handAt(impl.AtDown, c, 5, stack...), true}
			wantDown(t, "to the right", threeLevels(), 0, handAt(impl.AtDown, c, 1, stack...), right)
			here := downed{threeLevels(), handAt(impl.AtLatch, c, 5, stack...), true}
			if c.Code == impl.OpGet {
				here.hand = impl.Resting(impl.RpNo, 0)
			}
			wantDown(t, "there", threeLevels(), 0, handAt(impl.AtDown, c, 5, stack...), here)
		}
	}
}

// TestSixLevelsDown fills the Stack on a way down by as many levels as can be.
func TestSixLevelsDown(t *testing.T) {
	tree := tallTree()
	for _, c := range []impl.Call{get(50), put(50, 5), cut(50)} {
		h := handAt(impl.AtDown, c, 0)
		for level := range int64(impl.MaxLevel) {
			next := handAt(impl.AtDown, c, level+1, upTo(level+1)...)
			wantDown(t, "all levels", tree, 0, h, downed{tree, next, true})
			h = next
		}
		there := handAt(impl.AtLatch, c, impl.MaxLevel, upTo(impl.MaxLevel)...)
		if c.Code == impl.OpGet {
			there = impl.Resting(impl.RpNo, 0)
		}
		wantDown(t, "the leaf", tree, 0, h, downed{tree, there, true})
	}
}

// curs makes steps of a get from Called on, and tells where Cur was after each of them, and the Hand at rest.
func curs(t *testing.T, what string, tree impl.Tree, task, key int64) ([]int64, impl.Hand) {
	t.Helper()
	h, _ := impl.Called(impl.Resting(impl.RpNo, 0), get(key))
	been := []int64{}
	for range 3 * impl.MaxNodes {
		now, next, is := impl.DownStep(tree, task, h)
		if !is {
			t.Fatalf("%s: key %d: %+v makes no step in %+v", what, key, h, tree)
		}
		wantTree(t, now, tree)
		if next.At == impl.AtRest {
			return been, next
		}
		been, h = append(been, next.Cur), next
	}
	t.Fatalf("%s: key %d does not come to rest in %+v", what, key, tree)
	return nil, h
}

// TestStepsOfGetByHand: each step is one touch, in trees of one, of two and of three levels, whoever has the latches.
func TestStepsOfGetByHand(t *testing.T) {
	cases := []struct {
		tree impl.Tree
		key  int64
		curs []int64
		rest impl.Hand
	}{
		{impl.NewTree(), 7, []int64{0}, impl.Resting(impl.RpNo, 0)},
		{treeOf(0, endLeaf(pair(7, 70))), 7, []int64{0}, impl.Resting(impl.RpYes, 70)},
		{treeOf(0, leavesInARow(4)...), 3, []int64{0, 1, 2, 3}, impl.Resting(impl.RpYes, 996)},
		{twoLevels(), 5, []int64{2, 0}, impl.Resting(impl.RpYes, 999)},
		{twoLevels(), 99, []int64{2, 1}, impl.Resting(impl.RpNo, 0)},
		{halved(), 29, []int64{2, 1}, impl.Resting(impl.RpNo, 0)},
		{halved(), 99, []int64{2, 1, 3}, impl.Resting(impl.RpYes, 990)},
		{halvedRoot(), 30, []int64{2, 4, 3}, impl.Resting(impl.RpYes, 300)},
		{threeLevels(), 3, []int64{4, 6, 1}, impl.Resting(impl.RpYes, 30)},
		{threeLevels(), 39, []int64{4, 6, 5, 7}, impl.Resting(impl.RpYes, 390)},
		{threeLevels(), 31, []int64{4, 6, 5, 7}, impl.Resting(impl.RpNo, 0)},
		{threeLevels(), 70, []int64{4, 2, 3}, impl.Resting(impl.RpYes, 700)},
	}
	for _, c := range cases {
		for owner := range int64(impl.MaxTasks + 1) {
			tree := heldBy(c.tree, owner)
			been, rest := curs(t, "by hand", tree, 2, c.key)
			if !slices.Equal(been, c.curs) || !sameHand(rest, c.rest) {
				t.Fatalf("key %d in %+v: by %v to %+v", c.key, tree, been, rest)
			}
		}
	}
}

// heldBy is the tree with all its nodes of that Owner; the tree given stays.
func heldBy(tree impl.Tree, owner int64) impl.Tree {
	tree.Nodes = slices.Clone(tree.Nodes)
	for at := range tree.Nodes {
		tree.Nodes[at].Owner = owner
	}
	return tree
}

// TestStepsOfGet: by one step after the other a get comes to rest with what Found tells, whoever has the latches.
func TestStepsOfGet(t *testing.T) {
	draw := drawsFrom(9)
	trees := map[string]impl.Tree{}
	for what, c := range soundTrees() {
		trees[what] = c.tree
	}
	for i := range 100 {
		// A few of those that are drawn have more levels than can be.
		if tree, _ := drawnSound(draw); impl.TreeOk(tree) {
			trees[fmt.Sprint("drawn tree ", i)] = tree
		}
	}
	for what, tree := range trees {
		for key := range int64(impl.MaxKey + 1) {
			want := impl.Resting(impl.RpNo, 0)
			if value, there := impl.Found(tree, key); there {
				want = impl.Resting(impl.RpYes, value)
			}
			for _, held := range []impl.Tree{tree, heldBy(tree, 1+draw(impl.MaxTasks))} {
				if _, rest := curs(t, what, held, draw(impl.MaxTasks), key); !sameHand(rest, want) {
					t.Fatalf("%s: key %d rests with %+v, want %+v", what, key, rest, want)
				}
			}
		}
	}
}

// TestWhoLooksNeverWaits tells promise 9: at each node, whoever has it, a get makes its step, or is refused; and its step is the same as if nobody had any.
func TestWhoLooksNeverWaits(t *testing.T) {
	for what, tree := range wayTrees() {
		free := heldBy(tree, 0)
		eachDownHand(tree, func(h impl.Hand) {
			if h.Code != impl.OpGet {
				return
			}
			alone := wantedDown(free, 0, h)
			if !alone.is && alone.hand.At != impl.AtRest || !alone.is && h.At == impl.AtRoot {
				t.Fatalf("%s: %+v waits", what, h)
			}
			for owner := int64(1); owner <= impl.MaxTasks; owner++ {
				held, want := heldBy(tree, owner), alone
				if want.is {
					want.tree = held
				}
				wantDown(t, what, held, 0, h, want)
				wantDown(t, what, held, owner-1, h, want)
			}
		})
	}
}

// stepped makes a step that has to be.
func stepped(t *testing.T, tree impl.Tree, task int64, h impl.Hand) (impl.Tree, impl.Hand) {
	t.Helper()
	next, hand, is := impl.DownStep(tree, task, h)
	if !is {
		t.Fatalf("task %d makes no step: %+v in %+v", task, h, tree)
	}
	return next, hand
}

// TestWhoWritesWaits: of two who come to one leaf to write, the second waits till it is let go, and who looks comes by both.
func TestWhoWritesWaits(t *testing.T) {
	tree := halved()
	first, _ := impl.Called(impl.Hand{}, put(31, 5))
	second, _ := impl.Called(impl.Hand{}, cut(99))
	looks, _ := impl.Called(impl.Hand{}, get(99))
	for range 4 {
		tree, first = stepped(t, tree, 0, first)
		tree, second = stepped(t, tree, 5, second)
	}
	tree, first = stepped(t, tree, 0, first)
	if want := handAt(impl.AtCheck, put(31, 5), 3, 2); !sameHand(first, want) {
		t.Fatalf("%+v", first)
	}
	waits := handAt(impl.AtLatch, cut(99), 3, 2)
	for range 4 {
		wantDown(t, "the second", tree, 5, second, downed{tree, waits, false})
		wantDown(t, "the first, by now of another chapter", tree, 0, first, refused)
		tree, looks = stepped(t, tree, 2, looks)
	}
	if want := impl.Resting(impl.RpYes, 990); !sameHand(looks, want) {
		t.Fatalf("%+v", looks)
	}
	tree, _ = impl.Freed(tree, 3, 0)
	tree, second = stepped(t, tree, 5, second)
	if want := handAt(impl.AtCheck, cut(99), 3, 2); !sameHand(second, want) {
		t.Fatalf("%+v", second)
	}
	wantTree(t, tree, ownedBy(halved(), 3, 6))
}

// downTrees are right trees: held and free, with ways and without.
func downTrees() map[string]impl.Tree {
	trees := latchTrees()
	for what, tree := range wayTrees() {
		trees["way: "+what] = tree
		trees["way, held: "+what] = heldBy(tree, 4)
	}
	return trees
}

// eachDownHand gives Hands of each code that are at each node of the tree in each At of the table, with Stacks of each length.
func eachDownHand(tree impl.Tree, try func(h impl.Hand)) {
	count := int64(len(tree.Nodes))
	for cur := range count {
		for i, key := range []int64{0, 1, 8, 9, 10, 29, 30, 39, 40, 70, 98, 99} {
			for _, c := range []impl.Call{get(key), put(key, 5), cut(key)} {
				stack := make([]int64, (int(cur)+i)%(impl.MaxLevel+1))
				for k := range stack {
					stack[k] = (cur + int64(k)) % count
				}
				for at := int64(impl.AtRoot); at <= impl.AtLatch; at++ {
					try(wanting(handAt(at, c, cur, stack...), int64(i)%3))
				}
			}
		}
	}
}

func TestDownStep(t *testing.T) {
	for what, tree := range downTrees() {
		task := int64(0)
		eachDownHand(tree, func(h impl.Hand) {
			wantDown(t, what, tree, task, h, wantedDown(tree, task, h))
			task = (task + 1) % impl.MaxTasks
		})
	}
}

// TestDrawnDownSteps draws Hands of which a few are not right, or have a number of no node, and counts the kinds of answers.
func TestDrawnDownSteps(t *testing.T) {
	draw := drawsFrom(10)
	kinds := map[[3]int64]int{}
	for i := range 20000 {
		tree, _ := drawnSound(draw)
		if draw(2) == 0 {
			tree = drawnTree(draw)
		}
		for at := range tree.Nodes {
			tree.Nodes[at].Owner = draw(2) * draw(impl.MaxTasks+1)
		}
		h, task := drawnDownHand(draw, int64(len(tree.Nodes))), draw(impl.MaxTasks)
		want := wantedDown(tree, task, h)
		wantDown(t, fmt.Sprint("drawn step ", i), tree, task, h, want)
		if h.At == impl.AtLatch && !want.is && want.hand.At == impl.AtLatch {
			kinds[[3]int64{h.Code, h.At, -1}]++
		} else {
			kinds[[3]int64{h.Code, h.At, want.hand.At}]++
		}
	}
	for code := int64(impl.OpGet); code <= impl.OpCut; code++ {
		wanted := [][3]int64{{code, 1, 2}, {code, 1, 0}, {code, 2, 2}, {code, 2, 0}, {code, 3, 0}}
		if code != impl.OpGet {
			wanted = append(wanted, [][3]int64{{code, 2, 3}, {code, 3, 4}, {code, 3, -1}}...)
		}
		for _, kind := range wanted {
			if kinds[kind] < 100 {
				t.Fatal("too few of a kind were drawn", kind, kinds)
			}
		}
	}
}

// drawnDownHand is a drawnHand, most often of the table and with numbers below count.
func drawnDownHand(draw func(int64) int64, count int64) impl.Hand {
	h := drawnHand(draw)
	h.At = 1 + draw(3)
	h.Want = draw(2) * draw(3)
	if len(h.Stack) > impl.MaxLevel && draw(4) > 0 {
		h.Stack = h.Stack[:draw(impl.MaxLevel+1)]
	}
	places := nodePlaces(&h)
	for _, place := range places {
		*place = draw(count)
	}
	if draw(8) == 0 {
		*places[draw(int64(len(places)))] = draw(impl.MaxNodes)
	}
	return h
}

// nodePlaces are where the Hand has numbers of nodes.
func nodePlaces(h *impl.Hand) []*int64 {
	places := []*int64{&h.Cur, &h.Kid, &h.Old, &h.Next, &h.New}
	for i := range h.Stack {
		places = append(places, &h.Stack[i])
	}
	return places
}

// tableHands are Hands of each At of the table, of a get only where it is not AtLatch, that would make a step in an allOf(0) tree.
func tableHands() map[string]impl.Hand {
	hands := map[string]impl.Hand{}
	for at := int64(impl.AtRoot); at <= impl.AtLatch; at++ {
		for _, c := range []impl.Call{get(0), put(0, 7), cut(0)} {
			if at != impl.AtLatch || c.Code != impl.OpGet {
				hands[fmt.Sprint("at ", at, ", ", c)] = handAt(at, c, 0)
				hands[fmt.Sprint("at ", at, ", filled, ", c)] = wanting(filledHand(at, c), 0)
			}
		}
	}
	return hands
}

func TestNoSuchTaskSteps(t *testing.T) {
	for what, h := range tableHands() {
		for _, tree := range []impl.Tree{allOf(0), allOf(1), allOf(impl.MaxTasks)} {
			for _, task := range wrongTasks() {
				wantDown(t, what, tree, task, h, refused)
			}
			for task := range int64(impl.MaxTasks) {
				want := wantedDown(tree, task, h)
				if want.is != (h.At != impl.AtLatch || tree.Nodes[0].Owner == 0) {
					t.Fatalf("%s: task %d: %+v", what, task, want)
				}
				wantDown(t, what, tree, task, h, want)
			}
		}
	}
}

// TestNumbersOfNoNode tries, by how many nodes there are, each number that a node may have at each place of the Hand.
func TestNumbersOfNoNode(t *testing.T) {
	for _, count := range []int64{1, 2, 3, impl.MaxNodes - 1, impl.MaxNodes} {
		for owner := range int64(2) {
			tree := heldBy(treeOf(0, leavesInARow(count)...), owner)
			for _, h := range tableHands() {
				for place := range 5 + impl.MaxLevel {
					wantNumbersAt(t, tree, handAt(h.At, h.Call, 0), place)
				}
			}
		}
	}
}

// wantNumbersAt tries all numbers at that place of the Hand, with a full Stack.
func wantNumbersAt(t *testing.T, tree impl.Tree, base impl.Hand, place int) {
	t.Helper()
	waits := base.At == impl.AtLatch && tree.Nodes[0].Owner > 0
	for n := range int64(impl.MaxNodes) {
		h := onStack(base, make([]int64, impl.MaxLevel)...)
		*nodePlaces(&h)[place] = n
		want := refused
		if n < int64(len(tree.Nodes)) {
			want = wantedDown(tree, 1, h)
			if want.is == waits || want.hand.At == impl.AtRest && h.Code != impl.OpGet {
				t.Fatalf("%d at place %d of %+v: %+v", n, place, h, want)
			}
		}
		wantDown(t, fmt.Sprint(n, " at place ", place), tree, 1, h, want)
	}
}

func TestOtherAtsAreRefused(t *testing.T) {
	for owner := range int64(impl.MaxTasks + 1) {
		for at := range int64(impl.AtSwing + 1) {
			if impl.AtRoot <= at && at <= impl.AtLatch {
				continue
			}
			for _, c := range rightCalls() {
				for task := range int64(impl.MaxTasks) {
					wantDown(t, "at a leaf", ownedBy(impl.NewTree(), 0, owner), task, handAt(at, c, 0), refused)
					wantDown(t, "filled", allOf(owner), task, filledHand(at, c), refused)
				}
			}
		}
		wantDown(t, "of no call", allOf(owner), 0, impl.Hand{}, refused)
		wantDown(t, "rested", allOf(owner), 0, impl.Resting(impl.RpYes, 5), refused)
	}
}

func TestWrongHandsMakeNoStep(t *testing.T) {
	hands := wrongHands()
	for what, h := range tableHands() {
		addWrongFields(hands, what, h)
		addWrongStacks(hands, what, h)
		hands[what+", no call"] = atWork(h, impl.Call{})
		for why, c := range wrongCalls() {
			hands[what+", call: "+why] = atWork(h, c)
		}
		hands[what+", stack of one more"] = onStack(h, make([]int64, impl.MaxLevel+1)...)
	}
	for why, h := range hands {
		for _, tree := range []impl.Tree{allOf(0), allOf(1), longWay()} {
			wantDown(t, why, tree, 0, h, refused)
		}
	}
}

func atWork(h impl.Hand, c impl.Call) impl.Hand {
	h.Call = c
	return h
}

func TestWrongTreesHaveNoSteps(t *testing.T) {
	for why, tree := range wrongTrees() {
		for _, h := range tableHands() {
			for task := range int64(impl.MaxTasks) {
				wantDown(t, why, tree, task, h, refused)
			}
		}
	}
	for why, n := range wrongNodes() {
		for owner := range int64(2) {
			tree := heldBy(threeLevels(), owner)
			tree.Nodes = append(tree.Nodes, n)
			for at := int64(impl.AtRoot); at <= impl.AtLatch; at++ {
				wantDown(t, "beside the way: "+why, tree, 0, handAt(at, put(9, 9), 4), refused)
				wantDown(t, "beside the way: "+why, tree, 0, handAt(at, get(9), 4), refused)
			}
		}
	}
}

// scribbleHand writes all over the memory of an answered Hand.
func scribbleHand(h impl.Hand) {
	room := h.Stack[:cap(h.Stack)]
	for i := range room {
		room[i] = -55
	}
}

// wantOwnMemory writes over one of arguments and answers after the other, and then looks at the rest.
func wantOwnMemory(t *testing.T, what string, was impl.Tree, task int64, h impl.Hand) {
	t.Helper()
	tree, hand := spareTree(was), spareHand(h)
	want := wantedDown(was, task, h)
	keptTree, keptHand, _ := impl.DownStep(tree, task, hand)
	again, handAgain, _ := impl.DownStep(tree, task, hand)
	wantTreeStayed(t, tree, was)
	wantHandStayed(t, hand, h)
	scribbleHand(handAgain)
	wantTree(t, again, want.tree)
	scribbleTree(again)
	wantTreeStayed(t, tree, was)
	wantHandStayed(t, hand, h)
	wantDown(t, what, tree, task, hand, want)
	scribbleTree(tree)
	scribbleHand(hand)
	wantTree(t, keptTree, want.tree)
	if !sameHand(keptHand, want.hand) {
		t.Fatalf("%s: the answer has memory of the argument: %+v, want %+v", what, keptHand, want.hand)
	}
}

func TestAnswersOfStepsAreNewMemory(t *testing.T) {
	trees := map[string]impl.Tree{
		"new": impl.NewTree(), "halved root": halvedRoot(), "three levels": threeLevels(), "all levels": tallTree(),
		"held": heldBy(threeLevels(), 3), "held in turn": ownedInTurn(),
	}
	for what, tree := range trees {
		eachDownHand(tree, func(h impl.Hand) { wantOwnMemory(t, what, tree, 2, h) })
	}
	for what, h := range wrongHands() {
		wantOwnMemory(t, what, allOf(0), 2, h)
	}
	for why, tree := range wrongTrees() {
		for _, h := range tableHands() {
			wantOwnMemory(t, why, tree, 2, h)
		}
	}
}

// TestListsOfStepAnswersAreApart: the pairs of one node of an answer have no memory of those of another one, as here those of the argument have.
func TestListsOfStepAnswersAreApart(t *testing.T) {
	tree, list := sharedPairs()
	for i := range tree.Nodes {
		for what, h := range tableHands() {
			h = handAt(h.At, h.Call, 0, 1, 1)
			for owner := range int64(2) {
				got, _, _ := impl.DownStep(ownedBy(tree, 0, owner), 0, h)
				if len(got.Nodes) != len(tree.Nodes) {
					t.Fatalf("%s: no answer", what)
				}
				wantPairsApart(t, got, i)
			}
		}
	}
	wantStayed(t, list, []impl.Pair{pair(1, 0), pair(2, 0)})
}

// TestSpareRoomOfStepsIsNotRead: what stands behind the nodes, behind their pairs and behind the Stack is not there.
func TestSpareRoomOfStepsIsNotRead(t *testing.T) {
	leaf := endLeaf(roomBehind([]impl.Pair{pair(1, 10)}, pair(2, 20))...)
	tree := treeOf(0, roomBehind([]impl.Node{leaf}, endLeaf(pair(3, 30)))...)
	for what, h := range tableHands() {
		wantDown(t, what, tree, 0, handAt(h.At, h.Call, 1), refused)
	}
	wantDown(t, "a pair behind the others", tree, 0, handAt(impl.AtDown, get(2), 0), downed{tree, impl.Resting(impl.RpNo, 0), true})
	kids := roomBehind([]impl.Pair{pair(0, 1)}, pair(5, 2))
	tree = treeOf(0, endInner(1, kids...), endLeaf(), endLeaf(pair(9, 90)))
	wantDown(t, "a kid behind the others", tree, 0, handAt(impl.AtDown, get(9), 0), downed{tree, handAt(impl.AtDown, get(9), 1, 0), true})
	stack := roomBehind([]int64{1, 2, 1, 2, 1}, 2)
	down := downed{tree, handAt(impl.AtDown, cut(9), 1, 1, 2, 1, 2, 1, 0), true}
	wantDown(t, "numbers behind the Stack", tree, 0, handAt(impl.AtDown, cut(9), 0, stack...), down)
	if behind := stack[:6][5]; behind != 2 {
		t.Fatal("written behind the Stack: ", behind)
	}
}
