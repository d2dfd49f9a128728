package impl

import "slices"

const MaxKey = 99
const MaxValue = 999
const MaxPairs = 40

type Pair struct {
	Key   int64
	Value int64
}

func (p Pair) key() int64 { return p.Key }

// keyNumber tells whether a pair could have that key.
func keyNumber(key int64) bool { return 0 <= key && key <= MaxKey }

func (p Pair) right() bool {
	return keyNumber(p.Key) && 0 <= p.Value && p.Value <= MaxValue
}

type keyed interface {
	key() int64
}

// byKey is a list that rises by key.
type byKey[E keyed] []E

func (list byKey[E]) rises() bool {
	for i := 1; i < len(list); i++ {
		if list[i-1].key() >= list[i].key() {
			return false
		}
	}
	return true
}

// find tells where the key is, or would have to come in, and whether it is there.
func (list byKey[E]) find(key int64) (int, bool) {
	for i, e := range list {
		if e.key() >= key {
			return i, e.key() == key
		}
	}
	return len(list), false
}

// spliced is a new list, with the others in place of what stands from one index up to another.
// It never appends to the list itself: its spare room may belong to somebody.
func spliced[E any](list []E, from, upTo int, others ...E) []E {
	return slices.Concat(list[:from], others, list[upTo:])
}

func PairsOk(list []Pair) bool {
	if len(list) > MaxPairs {
		return false
	}
	for _, p := range list {
		if !p.right() {
			return false
		}
	}
	return byKey[Pair](list).rises()
}

func ValueAt(list []Pair, key int64) (int64, bool) {
	if !PairsOk(list) {
		return 0, false
	}
	i, there := byKey[Pair](list).find(key)
	if !there {
		return 0, false
	}
	return list[i].Value, true
}

func Put(list []Pair, p Pair) ([]Pair, bool) {
	if !PairsOk(list) {
		return []Pair{}, false
	}
	i, there := byKey[Pair](list).find(p.Key)
	switch {
	case !p.right():
		return slices.Clone(list), false
	case there:
		return spliced(list, i, i+1, p), false
	case len(list) == MaxPairs:
		return slices.Clone(list), false
	}
	return spliced(list, i, i, p), true
}

func Cut(list []Pair, key int64) ([]Pair, bool) {
	if !PairsOk(list) {
		return []Pair{}, false
	}
	i, there := byKey[Pair](list).find(key)
	if !there {
		return slices.Clone(list), false
	}
	return spliced(list, i, i+1), true
}
