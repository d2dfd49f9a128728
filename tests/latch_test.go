package tests

import (
	"fmt"
	"slices"
	"testing"

	"loop.example/g00796/impl"
)

// wrongTasks are the numbers of no task.
func wrongTasks() []int64 {
	return []int64{least, least + 1, -2, -1, impl.MaxTasks, impl.MaxTasks + 1, impl.MaxNodes, most - 1, most}
}

// askedNodes are the numbers of all nodes of the tree, and some of none.
func askedNodes(tree impl.Tree) []int64 {
	count := int64(len(tree.Nodes))
	numbers := []int64{least, least + 1, -2, -1, count, count + 1, impl.MaxNodes, impl.MaxNodes + 1, most - 1, most}
	return append(numbers, upTo(count)...)
}

// ownedBy is the tree with that Owner of that node; the tree given stays.
func ownedBy(tree impl.Tree, at, owner int64) impl.Tree {
	tree.Nodes = slices.Clone(tree.Nodes)
	tree.Nodes[at].Owner = owner
	return tree
}

// ownedInTurn is as many leaves as can be, of which each Owner, and nobody, has those that are his in turn.
func ownedInTurn() impl.Tree {
	tree := treeOf(0, leavesInARow(impl.MaxNodes)...)
	for at := range tree.Nodes {
		tree.Nodes[at].Owner = int64(at) % (impl.MaxTasks + 1)
	}
	return tree
}

// allOf is as many leaves as can be, of one Owner.
func allOf(owner int64) impl.Tree {
	tree := treeOf(impl.MaxNodes-1, leavesInARow(impl.MaxNodes)...)
	for at := range tree.Nodes {
		tree.Nodes[at].Owner = owner
	}
	return tree
}

// latchTrees are right trees, with nodes that somebody and that nobody holds.
func latchTrees() map[string]impl.Tree {
	trees := map[string]impl.Tree{"held in turn": ownedInTurn()}
	for what, c := range rightTrees() {
		trees[what] = c.tree
	}
	for owner := range int64(impl.MaxTasks + 1) {
		trees[fmt.Sprint("all of owner ", owner)] = allOf(owner)
		trees[fmt.Sprint("new, owner ", owner)] = ownedBy(impl.NewTree(), 0, owner)
		trees[fmt.Sprint("two levels, first leaf of owner ", owner)] = ownedBy(twoLevels(), 0, owner)
		trees[fmt.Sprint("two levels, root of owner ", owner)] = ownedBy(ownedBy(twoLevels(), 2, owner), 1, 3)
		trees[fmt.Sprint("three levels, root of owner ", owner)] = ownedBy(threeLevels(), 4, owner)
	}
	return trees
}

// ownerAt is the Owner of that node, and -1 where there is no such node.
func ownerAt(tree impl.Tree, at int64) int64 {
	for i, n := range tree.Nodes {
		if int64(i) == at {
			return n.Owner
		}
	}
	return -1
}

// wantedHeld goes through the nodes in order.
func wantedHeld(tree impl.Tree, task int64) []int64 {
	held := []int64{}
	for at := range tree.Nodes {
		if tree.Nodes[at].Owner-1 == task {
			held = append(held, int64(at))
		}
	}
	return held
}

func wantLatched(t *testing.T, tree impl.Tree, at, task int64) {
	t.Helper()
	want, free := tree, ownerAt(tree, at) == 0
	if free {
		want = ownedBy(tree, at, task+1)
	}
	got, taken := impl.Latched(tree, at, task)
	if taken != free {
		t.Fatalf("Latched by %d at %d of %+v: %v", task, at, tree, taken)
	}
	wantTree(t, got, want)
}

func wantFreed(t *testing.T, tree impl.Tree, at, task int64) {
	t.Helper()
	want, his := tree, ownerAt(tree, at) == task+1
	if his {
		want = ownedBy(tree, at, 0)
	}
	got, released := impl.Freed(tree, at, task)
	if released != his {
		t.Fatalf("Freed by %d at %d of %+v: %v", task, at, tree, released)
	}
	wantTree(t, got, want)
}

// wantNothing fails unless all three calls refuse the tree or the task.
func wantNothing(t *testing.T, why string, tree impl.Tree, at, task int64) {
	t.Helper()
	if held := impl.HeldBy(tree, task); len(held) != 0 {
		t.Fatalf("%s: task %d holds %v", why, task, held)
	}
	latched, taken := impl.Latched(tree, at, task)
	if taken || latched.Root != 0 || len(latched.Nodes) != 0 {
		t.Fatalf("%s: latched by %d at %d: %v %+v", why, task, at, taken, latched)
	}
	freed, released := impl.Freed(tree, at, task)
	if released || freed.Root != 0 || len(freed.Nodes) != 0 {
		t.Fatalf("%s: freed by %d at %d: %v %+v", why, task, at, released, freed)
	}
}

func TestHeldByByHand(t *testing.T) {
	several := ownedBy(ownedBy(ownedBy(threeLevels(), 6, 2), 4, 2), 0, 6)
	cases := []struct {
		what string
		tree impl.Tree
		held [impl.MaxTasks][]int64
	}{
		{"new", impl.NewTree(), [impl.MaxTasks][]int64{}},
		{"new, of the first task", ownedBy(impl.NewTree(), 0, 1), [impl.MaxTasks][]int64{0: {0}}},
		{"new, of the last task", ownedBy(impl.NewTree(), 0, 6), [impl.MaxTasks][]int64{5: {0}}},
		{"two levels", twoLevels(), [impl.MaxTasks][]int64{}},
		{"two levels, root", ownedBy(twoLevels(), 2, 3), [impl.MaxTasks][]int64{2: {2}}},
		{"three levels", threeLevels(), [impl.MaxTasks][]int64{1: {1}, 5: {7}}},
		{"three levels, several", several, [impl.MaxTasks][]int64{1: {1, 4, 6}, 5: {0, 7}}},
		{"in turn", ownedInTurn(), [impl.MaxTasks][]int64{
			{1, 8, 15, 22, 29, 36}, {2, 9, 16, 23, 30, 37}, {3, 10, 17, 24, 31, 38},
			{4, 11, 18, 25, 32, 39}, {5, 12, 19, 26, 33}, {6, 13, 20, 27, 34}}},
		{"all", allOf(4), [impl.MaxTasks][]int64{3: upTo(impl.MaxNodes)}},
	}
	for _, c := range cases {
		for task, want := range c.held {
			if got := impl.HeldBy(c.tree, int64(task)); !slices.Equal(got, want) {
				t.Errorf("%s: task %d holds %v, want %v", c.what, task, got, want)
			}
		}
	}
}

// TestHeldBy asks often, since what is gone through in no order could rise by luck.
func TestHeldBy(t *testing.T) {
	for what, tree := range latchTrees() {
		for task := range int64(impl.MaxTasks) {
			want := wantedHeld(tree, task)
			for range 5 {
				if got := impl.HeldBy(tree, task); !slices.Equal(got, want) {
					t.Fatalf("%s: task %d holds %v, want %v", what, task, got, want)
				}
			}
		}
	}
}

func TestLatchedByHand(t *testing.T) {
	tree, taken := impl.Latched(impl.NewTree(), 0, 0)
	if !taken {
		t.Fatal("a new tree")
	}
	wantTree(t, tree, treeOf(0, withOwner(endLeaf(), 1)))
	for task := range int64(impl.MaxTasks) {
		again, taken := impl.Latched(tree, 0, task)
		if taken {
			t.Fatalf("task %d has it too", task)
		}
		wantTree(t, again, treeOf(0, withOwner(endLeaf(), 1)))
	}
	root, taken := impl.Latched(twoLevels(), 2, 5)
	if !taken {
		t.Fatal("the root")
	}
	wantTree(t, root, treeOf(2,
		linkTo(endLeaf(pair(1, 40), pair(5, 999)), 1),
		endLeaf(pair(9, 3)),
		withOwner(endInner(1, pair(0, 0), pair(9, 1)), 6)))
}

func TestFreedByHand(t *testing.T) {
	held := treeOf(0, withOwner(endLeaf(pair(4, 40)), 6))
	for task := range int64(impl.MaxTasks - 1) {
		still, released := impl.Freed(held, 0, task)
		if released {
			t.Fatalf("task %d let go what is not his", task)
		}
		wantTree(t, still, held)
	}
	for _, at := range []int64{least, -1, 1, impl.MaxNodes, most} {
		still, released := impl.Freed(held, at, 5)
		if released {
			t.Fatalf("node %d", at)
		}
		wantTree(t, still, held)
	}
	tree, released := impl.Freed(held, 0, 5)
	if !released {
		t.Fatal("not let go")
	}
	wantTree(t, tree, treeOf(0, endLeaf(pair(4, 40))))
	twice, released := impl.Freed(tree, 0, 5)
	if released {
		t.Fatal("let go twice")
	}
	wantTree(t, twice, treeOf(0, endLeaf(pair(4, 40))))
}

func TestLatchedAndFreedAnywhere(t *testing.T) {
	for _, tree := range latchTrees() {
		for _, at := range askedNodes(tree) {
			for task := range int64(impl.MaxTasks) {
				wantLatched(t, tree, at, task)
				wantFreed(t, tree, at, task)
			}
		}
	}
}

// TestLatchAndLetGo: who takes a free node and lets it go leaves the tree as it was, and nobody has it in between.
func TestLatchAndLetGo(t *testing.T) {
	for what, tree := range latchTrees() {
		for at := range int64(len(tree.Nodes)) {
			if tree.Nodes[at].Owner != 0 {
				continue
			}
			for task := range int64(impl.MaxTasks) {
				held, _ := impl.Latched(tree, at, task)
				for other := range int64(impl.MaxTasks) {
					_, taken := impl.Latched(held, at, other)
					_, released := impl.Freed(held, at, other)
					if taken || released != (other == task) || slices.Contains(impl.HeldBy(held, other), at) != (other == task) {
						t.Fatalf("%s: task %d, while task %d has node %d", what, other, task, at)
					}
				}
				back, _ := impl.Freed(held, at, task)
				wantTree(t, back, tree)
			}
		}
	}
}

// TestOneOwnerAtATime lets all tasks take and let go in a drawn order, beside a list of who has what.
func TestOneOwnerAtATime(t *testing.T) {
	draw := drawsFrom(5)
	tree := threeLevels()
	owners := []int64{0, 2, 0, 0, 0, 0, 0, 6}
	for range 3000 {
		at, task := draw(8), draw(impl.MaxTasks)
		is, want := false, false
		if draw(2) == 0 {
			tree, is = impl.Latched(tree, at, task)
			if want = owners[at] == 0; want {
				owners[at] = task + 1
			}
		} else {
			tree, is = impl.Freed(tree, at, task)
			if want = owners[at] == task+1; want {
				owners[at] = 0
			}
		}
		if is != want {
			t.Fatalf("task %d at node %d: %v", task, at, is)
		}
		wantOwners(t, tree, owners)
	}
	for at := range threeLevels().Nodes {
		tree.Nodes[at].Owner = threeLevels().Nodes[at].Owner
	}
	wantTree(t, tree, threeLevels())
}

// wantOwners fails unless each node is held by its Owner, and by no other task.
func wantOwners(t *testing.T, tree impl.Tree, owners []int64) {
	t.Helper()
	holders := make([]int64, len(owners))
	for task := range int64(impl.MaxTasks) {
		for _, at := range impl.HeldBy(tree, task) {
			if holders[at] != 0 {
				t.Fatalf("node %d is held by %d and by %d", at, holders[at]-1, task)
			}
			holders[at] = task + 1
		}
	}
	if !impl.TreeOk(tree) || !slices.Equal(holders, owners) {
		t.Fatalf("held by %v, want %v: %+v", holders, owners, tree)
	}
}

func TestWrongTasksHoldNothing(t *testing.T) {
	for what, tree := range latchTrees() {
		for _, task := range wrongTasks() {
			for _, at := range askedNodes(tree) {
				wantNothing(t, what, tree, at, task)
			}
		}
	}
}

func TestWrongTreesHaveNoLatches(t *testing.T) {
	for why, tree := range wrongTrees() {
		for _, at := range []int64{least, -1, 0, 1, tree.Root, impl.MaxNodes - 1, impl.MaxNodes, most} {
			for task := int64(-1); task <= impl.MaxTasks; task++ {
				wantNothing(t, why, tree, at, task)
			}
		}
	}
}

// TestWrongTreesWithOwners: who has hold in a tree that is not right counts no more than who would take hold.
func TestWrongTreesWithOwners(t *testing.T) {
	for task := range int64(impl.MaxTasks) {
		root := ownedBy(twoLevels(), 0, task+1)
		root.Root = 3
		beside := ownedBy(ownedBy(twoLevels(), 0, task+1), 1, impl.MaxTasks+1)
		below := ownedBy(ownedBy(twoLevels(), 0, task+1), 1, -1)
		for i, tree := range []impl.Tree{root, beside, below} {
			for at := int64(-1); at <= 3; at++ {
				wantNothing(t, fmt.Sprint("wrong tree ", i), tree, at, task)
			}
		}
	}
}

// scribbleTree writes all over the memory of an answered tree, to see who else has it.
func scribbleTree(tree impl.Tree) {
	for _, n := range tree.Nodes {
		scribble(n.Pairs)
	}
	room := tree.Nodes[:cap(tree.Nodes)]
	for i := range room {
		room[i] = sentinelNode
	}
}

// eachLatchCall asks Latched and Freed of each node, and of none, by each task, and by none.
func eachLatchCall(tree impl.Tree, told func(call func() impl.Tree)) {
	for _, at := range askedNodes(tree) {
		for task := int64(-1); task <= impl.MaxTasks; task++ {
			told(func() impl.Tree { got, _ := impl.Latched(tree, at, task); return got })
			told(func() impl.Tree { got, _ := impl.Freed(tree, at, task); return got })
		}
	}
}

func TestAnswersOfLatchesAreNewMemory(t *testing.T) {
	for _, was := range latchTrees() {
		arg := spareTree(was)
		eachLatchCall(arg, func(call func() impl.Tree) {
			kept := call()
			want := spareTree(kept)
			scribbleTree(call())
			wantTree(t, kept, want)
			wantTree(t, call(), want)
		})
		wantTreeStayed(t, arg, was)
	}
}

// sharedPairs is a right tree whose nodes have their pairs in the same memory; and that list, with spare room behind it.
func sharedPairs() (impl.Tree, []impl.Pair) {
	list := withSpare([]impl.Pair{pair(1, 0), pair(2, 0)})
	return treeOf(0, endLeaf(list...), endInner(1, list...), endLeaf(list[:1]...), endLeaf(list[:0]...), endLeaf(list[1:]...)), list
}

// wantPairsApart writes over the pairs of one node of an answered tree, and then looks at the others.
func wantPairsApart(t *testing.T, got impl.Tree, i int) {
	t.Helper()
	want := spareTree(got)
	scribble(got.Nodes[i].Pairs)
	got.Nodes[i].Pairs, want.Nodes[i].Pairs = nil, nil
	wantTree(t, got, want)
}

// TestListsOfLatchAnswersAreApart: the pairs of one node of an answer have no memory of those of another one, as here those of the argument have.
func TestListsOfLatchAnswersAreApart(t *testing.T) {
	tree, list := sharedPairs()
	if !impl.TreeOk(tree) {
		t.Fatal("refused")
	}
	for i := range tree.Nodes {
		eachLatchCall(tree, func(call func() impl.Tree) {
			if got := call(); len(got.Nodes) > 0 {
				wantPairsApart(t, got, i)
			}
		})
	}
	wantStayed(t, list, []impl.Pair{pair(1, 0), pair(2, 0)})
}

func TestHeldNumbersAreNewMemory(t *testing.T) {
	for what, was := range latchTrees() {
		arg := spareTree(was)
		for task := range int64(impl.MaxTasks) {
			kept, answer := impl.HeldBy(arg, task), impl.HeldBy(arg, task)
			room := answer[:cap(answer)]
			for i := range room {
				room[i] = -55
			}
			if want := wantedHeld(was, task); !slices.Equal(kept, want) || !slices.Equal(impl.HeldBy(arg, task), want) {
				t.Fatalf("%s: numbers of task %d were written: %v", what, task, kept)
			}
		}
		wantTreeStayed(t, arg, was)
	}
}

func TestArgumentsOfLatchesStay(t *testing.T) {
	trees := latchTrees()
	for why, tree := range wrongTrees() {
		trees["wrong: "+why] = tree
	}
	for _, was := range trees {
		arg := spareTree(was)
		for task := int64(-1); task <= impl.MaxTasks; task++ {
			impl.HeldBy(arg, task)
			for _, at := range []int64{-1, 0, was.Root, int64(len(was.Nodes)) - 1, int64(len(was.Nodes))} {
				impl.Latched(arg, at, task)
				impl.Freed(arg, at, task)
			}
		}
		wantTreeStayed(t, arg, was)
	}
}

// TestSpareRoomOfLatchesIsNotRead: nodes that stand behind the list are held by nobody, and nobody takes or lets go one of them.
func TestSpareRoomOfLatchesIsNotRead(t *testing.T) {
	leaves := []impl.Node{linkTo(endLeaf(), 1), endLeaf()}
	for owner := range int64(impl.MaxTasks + 1) {
		tree := treeOf(0, roomBehind(leaves, withOwner(endLeaf(), owner))...)
		for task := range int64(impl.MaxTasks) {
			latched, taken := impl.Latched(tree, 2, task)
			freed, released := impl.Freed(tree, 2, task)
			if taken || released || len(impl.HeldBy(tree, task)) != 0 {
				t.Fatalf("owner %d, task %d: %v %v", owner, task, taken, released)
			}
			wantTree(t, latched, treeOf(0, leaves...))
			wantTree(t, freed, treeOf(0, leaves...))
		}
	}
}
