package tests

import (
	"slices"
	"testing"

	"loop.example/g00796/impl"
)

const (
	least = -1 << 63
	most  = 1<<63 - 1
)

// sentinel stands in the spare room behind an argument, where nothing may be written.
var sentinel = impl.Pair{Key: -77, Value: -78}

// withSpare is the list with spare room behind it, which sentinels fill.
func withSpare(list []impl.Pair) []impl.Pair {
	room := slices.Clone(list)
	for range 3 {
		room = append(room, sentinel)
	}
	return room[:len(list):len(room)]
}

// wantStayed fails unless the argument that withSpare made is as it was, and its spare room too.
func wantStayed(t *testing.T, arg, was []impl.Pair) {
	t.Helper()
	room := arg[:cap(arg)]
	wantPairs(t, room[:len(was)], was)
	for _, p := range room[len(was):] {
		if p != sentinel {
			t.Fatalf("spare room behind %v was written: %v", was, room)
		}
	}
}

func wantPairs(t *testing.T, got, want []impl.Pair) {
	t.Helper()
	if !slices.Equal(got, want) {
		t.Fatalf("got %v, want %v", got, want)
	}
}

// scribble writes all over the memory of an answer, to see who else has it.
func scribble(list []impl.Pair) {
	room := list[:cap(list)]
	for i := range room {
		room[i] = impl.Pair{Key: -55, Value: -55}
	}
}

// rising is n pairs with keys from first on, each step more than the one ahead.
func rising(n int, first, step int64) []impl.Pair {
	list := []impl.Pair{}
	for i := range int64(n) {
		list = append(list, impl.Pair{Key: first + i*step, Value: 10 * i})
	}
	return list
}
