package tests

import (
	"slices"
	"testing"

	"loop.example/g00796/impl"
)

const (
	least = -1 << 63
	most  = 1<<63 - 1
)

// sentinel stands in the spare room behind an argument, where nothing may be written.
var sentinel = impl.Pair{Key: -77, Value: -78}

// roomBehind is a copy of the list with spare room behind it, which marks fill.
func roomBehind[E any](list []E, mark E) []E {
	room := slices.Clone(list)
	for range 3 {
		room = append(room, mark)
	}
	return room[:len(list):len(room)]
}

// withSpare is the list with spare room behind it, which sentinels fill.
func withSpare(list []impl.Pair) []impl.Pair { return roomBehind(list, sentinel) }

// wantStayed fails unless the argument that withSpare made is as it was, and its spare room too.
func wantStayed(t *testing.T, arg, was []impl.Pair) {
	t.Helper()
	room := arg[:cap(arg)]
	wantPairs(t, room[:len(was)], was)
	for _, p := range room[len(was):] {
		if p != sentinel {
			t.Fatalf("spare room behind %v was written: %v", was, room)
		}
	}
}

func wantPairs(t *testing.T, got, want []impl.Pair) {
	t.Helper()
	if !slices.Equal(got, want) {
		t.Fatalf("got %v, want %v", got, want)
	}
}

// scribble writes all over the memory of an answer, to see who else has it.
func scribble(list []impl.Pair) {
	room := list[:cap(list)]
	for i := range room {
		room[i] = impl.Pair{Key: -55, Value: -55}
	}
}

// rising is n pairs with keys from first on, each step more than the one ahead.
func rising(n int, first, step int64) []impl.Pair {
	list := []impl.Pair{}
	for i := range int64(n) {
		list = append(list, impl.Pair{Key: first + i*step, Value: 10 * i})
	}
	return list
}

// drawsFrom draws numbers below n, the same ones each time it begins with that turn.
func drawsFrom(turn int64) func(n int64) int64 {
	return func(n int64) int64 {
		turn = (turn*1103515245 + 12345) % (1 << 31)
		return turn / 64 % n
	}
}

// sentinelNode stands in the spare room behind the nodes of a tree.
var sentinelNode = impl.Node{Level: -77, High: -78, Right: -79, Owner: -80}

// spareTree is a copy of the tree with spare room behind its nodes, and behind the pairs of each.
func spareTree(t impl.Tree) impl.Tree {
	t.Nodes = roomBehind(t.Nodes, sentinelNode)
	for i, n := range t.Nodes {
		t.Nodes[i].Pairs = withSpare(n.Pairs)
	}
	return t
}

func sameNode(a, b impl.Node) bool {
	return a.Level == b.Level && slices.Equal(a.Pairs, b.Pairs) && a.High == b.High && a.Right == b.Right && a.Owner == b.Owner
}

func wantTree(t *testing.T, got, want impl.Tree) {
	t.Helper()
	if got.Root != want.Root || !slices.EqualFunc(got.Nodes, want.Nodes, sameNode) {
		t.Fatalf("got %+v, want %+v", got, want)
	}
}

// wantTreeStayed fails unless the argument that spareTree made is as it was, and its spare room too.
func wantTreeStayed(t *testing.T, arg, was impl.Tree) {
	t.Helper()
	wantTree(t, arg, was)
	for i, n := range was.Nodes {
		wantStayed(t, arg.Nodes[i].Pairs, n.Pairs)
	}
	for _, n := range arg.Nodes[len(arg.Nodes):cap(arg.Nodes)] {
		if !sameNode(n, sentinelNode) {
			t.Fatalf("spare room behind %+v was written: %+v", was, n)
		}
	}
}
