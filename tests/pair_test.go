package tests

import (
	"slices"
	"testing"

	"loop.example/g00796/impl"
)

func pair(key, value int64) impl.Pair { return impl.Pair{Key: key, Value: value} }

// rightLists are PairsOk.
func rightLists() [][]impl.Pair {
	return [][]impl.Pair{
		nil,
		{},
		{pair(0, 0)},
		{pair(impl.MaxKey, impl.MaxValue)},
		{pair(0, 7), pair(1, 7)},
		{pair(0, 999), pair(50, 0), pair(99, 999)},
		{pair(2, 20), pair(5, 50), pair(6, 60), pair(30, 300)},
		rising(impl.MaxPairs-1, 1, 2),
		rising(impl.MaxPairs, 0, 1),
		rising(impl.MaxPairs, 0, 2),
		rising(impl.MaxPairs, impl.MaxKey-impl.MaxPairs+1, 1),
	}
}

// wrongLists are not PairsOk, each for one reason.
func wrongLists() map[string][]impl.Pair {
	return map[string][]impl.Pair{
		"falls":              {pair(5, 0), pair(2, 0)},
		"falls at the end":   {pair(1, 0), pair(3, 0), pair(2, 0)},
		"falls at the start": {pair(3, 0), pair(2, 0), pair(4, 0)},
		"alike":              {pair(5, 1), pair(5, 2)},
		"alike at the end":   {pair(1, 0), pair(5, 1), pair(5, 1)},
		"key -1":             {pair(-1, 0), pair(5, 0)},
		"key past limit":     {pair(5, 0), pair(impl.MaxKey+1, 0)},
		"least key":          {pair(least, 0), pair(5, 0)},
		"most key":           {pair(5, 0), pair(most, 0)},
		"value -1":           {pair(5, -1)},
		"value past limit":   {pair(2, 0), pair(5, impl.MaxValue+1)},
		"least value":        {pair(5, least), pair(6, 0)},
		"most value":         {pair(5, most)},
		"one too many":       rising(impl.MaxPairs+1, 0, 1),
		"many too many":      rising(impl.MaxKey+1, 0, 1),
	}
}

// wrongPairs are not right, each for one reason.
func wrongPairs() []impl.Pair {
	return []impl.Pair{
		pair(-1, 0), pair(impl.MaxKey+1, 0), pair(least, 0), pair(most, 0),
		pair(3, -1), pair(3, impl.MaxValue+1), pair(3, least), pair(3, most),
		pair(-1, -1), pair(most, most),
	}
}

// bookOf is what a list should hold, by key.
func bookOf(list []impl.Pair) map[int64]int64 {
	book := map[int64]int64{}
	for _, p := range list {
		book[p.Key] = p.Value
	}
	return book
}

// pairsOf is the book as the rising list that it should be.
func pairsOf(book map[int64]int64) []impl.Pair {
	list := []impl.Pair{}
	for key := range int64(impl.MaxKey + 1) {
		if value, there := book[key]; there {
			list = append(list, pair(key, value))
		}
	}
	return list
}

// askedKeys are all keys, and some that can't be.
func askedKeys() []int64 {
	keys := []int64{least, least + 1, -100, -2, -1, impl.MaxKey + 1, impl.MaxKey + 2, 200, most - 1, most}
	for key := range int64(impl.MaxKey + 1) {
		keys = append(keys, key)
	}
	return keys
}

func TestLimitsOfPairs(t *testing.T) {
	if impl.MaxKey != 99 || impl.MaxValue != 999 || impl.MaxPairs != 40 {
		t.Fatal(impl.MaxKey, impl.MaxValue, impl.MaxPairs)
	}
}

func TestPairsOk(t *testing.T) {
	for i, list := range rightLists() {
		if !impl.PairsOk(list) {
			t.Errorf("right list %d refused: %v", i, list)
		}
	}
	for why, list := range wrongLists() {
		if impl.PairsOk(list) {
			t.Errorf("%s: accepted: %v", why, list)
		}
	}
	for _, p := range wrongPairs() {
		if impl.PairsOk([]impl.Pair{p}) {
			t.Errorf("accepted: %v", p)
		}
	}
}

func TestValueAt(t *testing.T) {
	for _, list := range rightLists() {
		book := bookOf(list)
		for _, key := range askedKeys() {
			want, there := book[key]
			if got, is := impl.ValueAt(list, key); got != want || is != there {
				t.Fatalf("ValueAt(%v, %d) = %d, %v", list, key, got, is)
			}
		}
	}
}

func TestValueAtOfWrongLists(t *testing.T) {
	for why, list := range wrongLists() {
		for _, p := range list {
			if got, is := impl.ValueAt(list, p.Key); got != 0 || is {
				t.Fatalf("%s: ValueAt %d = %d, %v", why, p.Key, got, is)
			}
		}
	}
}

func TestPut(t *testing.T) {
	for _, list := range rightLists() {
		for key := range int64(impl.MaxKey + 1) {
			for _, value := range []int64{0, 1, impl.MaxValue} {
				wantPut(t, list, pair(key, value))
			}
		}
	}
}

// wantPut fails unless a right pair is put among right pairs, or refused for want of room.
func wantPut(t *testing.T, list []impl.Pair, p impl.Pair) {
	t.Helper()
	book := bookOf(list)
	_, there := book[p.Key]
	room := there || len(list) < impl.MaxPairs
	if room {
		book[p.Key] = p.Value
	}
	got, isNew := impl.Put(list, p)
	wantPairs(t, got, pairsOf(book))
	if isNew != (room && !there) {
		t.Fatalf("Put(%v, %v): was there none: %v", list, p, isNew)
	}
}

func TestPutOfWrongPairs(t *testing.T) {
	for _, list := range rightLists() {
		for _, p := range append(wrongPairs(), pair(0, -1), pair(99, impl.MaxValue+1)) {
			got, isNew := impl.Put(list, p)
			wantPairs(t, got, list)
			if isNew {
				t.Fatalf("Put(%v, %v): true", list, p)
			}
		}
	}
}

func TestPutIntoWrongLists(t *testing.T) {
	for why, list := range wrongLists() {
		for _, p := range append(wrongPairs(), pair(0, 0), pair(5, 1), pair(99, 999)) {
			if got, isNew := impl.Put(list, p); len(got) != 0 || isNew {
				t.Fatalf("%s: Put(%v) = %v, %v", why, p, got, isNew)
			}
		}
	}
}

func TestPutUpToTheLimit(t *testing.T) {
	list := []impl.Pair(nil)
	for i := range int64(impl.MaxPairs) {
		next, isNew := impl.Put(list, pair(impl.MaxKey-2*i, i))
		if !isNew || int64(len(next)) != i+1 || !impl.PairsOk(next) {
			t.Fatal(i, next, isNew)
		}
		list = next
	}
	over, isNew := impl.Put(list, pair(0, 1))
	wantPairs(t, over, list)
	again, isNewToo := impl.Put(list, pair(impl.MaxKey, 777))
	if isNew || isNewToo || len(again) != impl.MaxPairs || again[impl.MaxPairs-1] != pair(impl.MaxKey, 777) {
		t.Fatal(isNew, isNewToo, again)
	}
	less, _ := impl.Cut(list, impl.MaxKey)
	if last, isNew := impl.Put(less, pair(0, 1)); !isNew || len(last) != impl.MaxPairs || last[0] != pair(0, 1) {
		t.Fatal(isNew, last)
	}
}

func TestCut(t *testing.T) {
	for _, list := range rightLists() {
		for _, key := range askedKeys() {
			book := bookOf(list)
			_, there := book[key]
			delete(book, key)
			got, was := impl.Cut(list, key)
			wantPairs(t, got, pairsOf(book))
			if was != there {
				t.Fatalf("Cut(%v, %d): %v", list, key, was)
			}
		}
	}
}

func TestCutOfWrongLists(t *testing.T) {
	for why, list := range wrongLists() {
		for _, key := range askedKeys() {
			if got, was := impl.Cut(list, key); len(got) != 0 || was {
				t.Fatalf("%s: Cut(%d) = %v, %v", why, key, got, was)
			}
		}
	}
}

// TestPairsAsABook puts and cuts at length, beside a map that should always agree.
func TestPairsAsABook(t *testing.T) {
	list := []impl.Pair(nil)
	turn := int64(1)
	for range 5000 {
		turn = (turn*1103515245 + 12345) % (1 << 31)
		key, value := turn/64%(impl.MaxKey+1), turn/8192%(impl.MaxValue+1)
		if turn/65536%3 == 0 {
			book := bookOf(list)
			delete(book, key)
			list, _ = impl.Cut(list, key)
			wantPairs(t, list, pairsOf(book))
		} else {
			wantPut(t, list, pair(key, value))
			list, _ = impl.Put(list, pair(key, value))
		}
		if !impl.PairsOk(list) {
			t.Fatal(list)
		}
	}
}

// callsOnPairs are the calls of chapter 1 that answer a list, each way they can go.
func callsOnPairs(list []impl.Pair) [][]impl.Pair {
	answers := [][]impl.Pair{}
	for _, p := range append(wrongPairs(), pair(0, 9), pair(3, 9), pair(5, 9), pair(98, 9), pair(99, 9)) {
		put, _ := impl.Put(list, p)
		cut, _ := impl.Cut(list, p.Key)
		answers = append(answers, put, cut)
	}
	return answers
}

func allLists() [][]impl.Pair {
	lists := rightLists()
	for _, list := range wrongLists() {
		lists = append(lists, list)
	}
	return lists
}

func TestArgumentsOfPairsStay(t *testing.T) {
	for _, was := range allLists() {
		arg := withSpare(was)
		for _, key := range askedKeys() {
			impl.PairsOk(arg)
			impl.ValueAt(arg, key)
			impl.Put(arg, pair(key, 5))
			impl.Cut(arg, key)
			wantStayed(t, arg, was)
		}
	}
}

func TestAnswersOfPairsAreNewMemory(t *testing.T) {
	for _, was := range allLists() {
		arg := withSpare(was)
		answers := callsOnPairs(arg)
		kept := callsOnPairs(slices.Clone(was))
		for i, answer := range answers {
			wantPairs(t, answer, kept[i])
			scribble(answer)
			wantStayed(t, arg, was)
		}
	}
}
