package tests

import (
	"fmt"
	"maps"
	"slices"
	"testing"

	"loop.example/g00796/impl"
)

func get(key int64) impl.Call { return impl.Call{Code: impl.OpGet, Key: key} }

func put(key, value int64) impl.Call { return impl.Call{Code: impl.OpPut, Key: key, Value: value} }

func cut(key int64) impl.Call { return impl.Call{Code: impl.OpCut, Key: key} }

// askedCalls have all keys, and the codes and values about their limits.
func askedCalls() []impl.Call {
	calls := []impl.Call{}
	for _, code := range []int64{least, -2, -1, 0, 1, 2, 3, 4, 5, most} {
		for _, key := range askedKeys() {
			for _, value := range askedValues() {
				calls = append(calls, impl.Call{Code: code, Key: key, Value: value})
			}
		}
	}
	return calls
}

// rightCalls are CallOk, a few of each code.
func rightCalls() []impl.Call {
	return []impl.Call{
		get(0), get(7), get(impl.MaxKey),
		put(0, 0), put(7, 1), put(0, impl.MaxValue), put(impl.MaxKey, 0), put(impl.MaxKey, impl.MaxValue),
		cut(0), cut(7), cut(impl.MaxKey),
	}
}

// wrongCalls are not CallOk, each for one reason; the zero Call is the only one of them that a hand at rest may have.
func wrongCalls() map[string]impl.Call {
	return map[string]impl.Call{
		"zero":              {},
		"code 0 of a key":   {Key: 1},
		"code 0 of a value": {Value: 1},
		"code -1":           {Code: -1},
		"code 4":            {Code: 4},
		"least code":        {Code: least},
		"most code":         {Code: most, Key: 7, Value: 7},
		"get, value 1":      {Code: impl.OpGet, Key: 7, Value: 1},
		"get, value -1":     {Code: impl.OpGet, Key: 7, Value: -1},
		"cut, value 1":      {Code: impl.OpCut, Key: 7, Value: 1},
		"cut, most value":   {Code: impl.OpCut, Value: most},
		"get, key -1":       get(-1),
		"get, key 100":      get(impl.MaxKey + 1),
		"put, key -1":       put(-1, 0),
		"put, key 100":      put(impl.MaxKey+1, 0),
		"cut, key -1":       cut(-1),
		"cut, key 100":      cut(impl.MaxKey + 1),
		"put, value -1":     put(7, -1),
		"put, value 1000":   put(7, impl.MaxValue+1),
		"put, least key":    put(least, 0),
		"put, most value":   put(0, most),
	}
}

func rightAndWrongCalls() []impl.Call {
	return append(rightCalls(), slices.Collect(maps.Values(wrongCalls()))...)
}

// greatestValue is that of a Call of that code; no other code is there.
var greatestValue = map[int64]int64{1: 0, 2: 999, 3: 0}

func wantedCall(c impl.Call) bool {
	greatest, there := greatestValue[c.Code]
	return there && c.Key > -1 && c.Key < 100 && c.Value > -1 && c.Value < greatest+1
}

// wantedReplies are those that may be of a Call.
func wantedReplies(c impl.Call) []int64 {
	switch {
	case !wantedCall(c):
		return nil
	case c.Code == 2:
		return []int64{1, 2, 3}
	}
	return []int64{1, 2}
}

// handField is a number of a Hand, from 0 to a greatest one.
type handField struct {
	name     string
	greatest int64
	of       func(h *impl.Hand) *int64
}

func handFields() []handField {
	return []handField{
		{"At", 11, func(h *impl.Hand) *int64 { return &h.At }},
		{"Cur", 39, func(h *impl.Hand) *int64 { return &h.Cur }},
		{"Want", 6, func(h *impl.Hand) *int64 { return &h.Want }},
		{"Key", 99, func(h *impl.Hand) *int64 { return &h.Key }},
		{"Kid", 39, func(h *impl.Hand) *int64 { return &h.Kid }},
		{"Old", 39, func(h *impl.Hand) *int64 { return &h.Old }},
		{"Next", 39, func(h *impl.Hand) *int64 { return &h.Next }},
		{"New", 39, func(h *impl.Hand) *int64 { return &h.New }},
		{"Then", 2, func(h *impl.Hand) *int64 { return &h.Then }},
		{"Begin", 20000, func(h *impl.Hand) *int64 { return &h.Begin }},
		{"Reply", 3, func(h *impl.Hand) *int64 { return &h.Reply }},
		{"Out", 999, func(h *impl.Hand) *int64 { return &h.Out }},
	}
}

// wantedHand asks the Call first, then one field after the other.
func wantedHand(h impl.Hand) bool {
	if !wantedCall(h.Call) && (h.At != 0 || h.Call != impl.Call{}) {
		return false
	}
	for _, field := range handFields() {
		if n := *field.of(&h); n < 0 || n > field.greatest {
			return false
		}
	}
	for i, at := range h.Stack {
		if i == 6 || at < 0 || at > 39 {
			return false
		}
	}
	return true
}

// filledHand has something in each field, and several numbers in its Stack.
func filledHand(at int64, c impl.Call) impl.Hand {
	return impl.Hand{At: at, Call: c, Cur: 3, Want: 2, Key: 41, Kid: 4, Old: 5, Next: 6, New: 7,
		Stack: []int64{39, 0, 8, 8}, Then: 1, Begin: 77, Reply: 2, Out: 500}
}

// greatestHand has the greatest number in each field, and as many in its Stack as can be.
func greatestHand(c impl.Call) impl.Hand {
	h := impl.Hand{Call: c, Stack: slices.Repeat([]int64{39}, 6)}
	for _, field := range handFields() {
		*field.of(&h) = field.greatest
	}
	return h
}

func onStack(h impl.Hand, numbers ...int64) impl.Hand {
	h.Stack = numbers
	return h
}

// rightHands are HandOk.
func rightHands() map[string]impl.Hand {
	hands := map[string]impl.Hand{
		"zero":                        {},
		"zero with an empty Stack":    {Stack: []int64{}},
		"rested":                      {Reply: impl.RpYes, Out: 5},
		"at rest, filled, no call":    filledHand(impl.AtRest, impl.Call{}),
		"key of the call is another":  {At: impl.AtDown, Call: get(9), Key: 5},
		"reply that a get can't have": {At: impl.AtDown, Call: get(9), Reply: impl.RpFull},
		"stack of one":                onStack(filledHand(impl.AtFree, put(1, 2)), 0),
	}
	for at := range int64(12) {
		for _, c := range rightCalls() {
			hands[fmt.Sprint("at ", at, ", empty, ", c)] = impl.Hand{At: at, Call: c}
			hands[fmt.Sprint("at ", at, ", filled, ", c)] = filledHand(at, c)
		}
	}
	for _, c := range rightCalls() {
		hands[fmt.Sprint("greatest, ", c)] = greatestHand(c)
	}
	for count := range 7 {
		hands[fmt.Sprint("at rest, stack of ", count)] = impl.Hand{Stack: slices.Repeat([]int64{39}, count)}
		hands[fmt.Sprint("at work, stack of ", count)] = onStack(filledHand(impl.AtTop, put(1, 2)), slices.Repeat([]int64{1}, count)...)
	}
	return hands
}

// wrongHands are not HandOk, each for one reason.
func wrongHands() map[string]impl.Hand {
	hands := map[string]impl.Hand{
		"stack of one more":          {Stack: make([]int64, 7)},
		"stack of one more, at work": onStack(filledHand(impl.AtDown, get(3)), make([]int64, 7)...),
		"stack of many":              {Stack: make([]int64, 41)},
		"zero but of no At":          {At: 12},
		"zero but before AtRest":     {At: -1},
	}
	for at := range int64(12) {
		for why, c := range wrongCalls() {
			if at > 0 || c != (impl.Call{}) {
				hands[fmt.Sprint("at ", at, ", call: ", why)] = impl.Hand{At: at, Call: c}
				hands[fmt.Sprint("at ", at, ", filled, call: ", why)] = filledHand(at, c)
			}
		}
	}
	for what, h := range basesOfHands() {
		addWrongFields(hands, what, h)
		addWrongStacks(hands, what, h)
	}
	return hands
}

// basesOfHands are right hands, at rest and at work, with little and with much in them.
func basesOfHands() map[string]impl.Hand {
	return map[string]impl.Hand{
		"zero":                   {},
		"resting":                {Reply: impl.RpNo},
		"at rest, filled":        filledHand(impl.AtRest, cut(5)),
		"begun":                  {At: impl.AtRoot, Call: put(7, 9), Key: 7},
		"at work, filled":        filledHand(impl.AtCheck, cut(5)),
		"greatest, put":          greatestHand(put(99, 999)),
		"greatest, get":          greatestHand(get(0)),
		"greatest, but at rest":  atRest(greatestHand(put(0, 0))),
		"greatest of no call":    atRest(greatestHand(impl.Call{})),
		"key is not the call's":  {At: impl.AtLatch, Call: cut(99), Key: 0},
		"above, key of a halved": {At: impl.AtWrite, Call: put(3, 3), Key: 12, Want: 1, Kid: 2},
	}
}

func atRest(h impl.Hand) impl.Hand {
	h.At = impl.AtRest
	return h
}

func addWrongFields(hands map[string]impl.Hand, what string, h impl.Hand) {
	for _, field := range handFields() {
		for _, n := range []int64{least, -2, -1, field.greatest + 1, field.greatest + 2, most} {
			wrong := h
			*field.of(&wrong) = n
			hands[fmt.Sprint(what, ", ", field.name, " ", n)] = wrong
		}
	}
}

// addWrongStacks adds those with one number that is not a node's, at each place of Stacks of each length.
func addWrongStacks(hands map[string]impl.Hand, what string, h impl.Hand) {
	for count := range 7 {
		for i := range count {
			for _, n := range []int64{least, -1, impl.MaxNodes, most} {
				numbers := slices.Repeat([]int64{11}, count)
				numbers[i] = n
				hands[fmt.Sprint(what, ", stack of ", count, ", ", n, " at ", i)] = onStack(h, numbers...)
			}
		}
	}
}

func sameHand(a, b impl.Hand) bool {
	if a.Call != b.Call || !slices.Equal(a.Stack, b.Stack) {
		return false
	}
	for _, field := range handFields() {
		if *field.of(&a) != *field.of(&b) {
			return false
		}
	}
	return true
}

// called is what Called answers.
type called struct {
	hand impl.Hand
	code int64
}

func wantCalled(t *testing.T, what string, h impl.Hand, c impl.Call, want called) {
	t.Helper()
	got, code := impl.Called(h, c)
	if code != want.code || !sameHand(got, want.hand) {
		t.Fatalf("%s: Called(%+v, %v) = %+v, %d, want %+v", what, h, c, got, code, want)
	}
}

// wantedCalled makes a Hand at work out of the zero one.
func wantedCalled(h impl.Hand, c impl.Call) called {
	switch {
	case !wantedHand(h):
		return called{code: 3}
	case h.At > 0:
		return called{h, 1}
	case !wantedCall(c):
		return called{h, 2}
	}
	begun := impl.Hand{}
	begun.At, begun.Call, begun.Key = 1, c, c.Key
	return called{hand: begun}
}

func TestNumbersOfHands(t *testing.T) {
	for i, numbers := range [][]int64{
		{impl.OpGet, impl.OpPut, impl.OpCut, 1, 2, 3},
		{impl.RpYes, impl.RpNo, impl.RpFull, 1, 2, 3},
		{impl.AtRest, impl.AtRoot, impl.AtDown, impl.AtLatch, impl.AtCheck, impl.AtWrite, 0, 1, 2, 3, 4, 5},
		{impl.AtMake, impl.AtHalve, impl.AtFree, impl.AtTop, impl.AtRaise, impl.AtSwing, 6, 7, 8, 9, 10, 11},
		{impl.ThRest, impl.ThMove, impl.ThUp, 0, 1, 2},
		{impl.CdOk, impl.CdBusy, impl.CdUnfit, impl.CdWrong, 0, 1, 2, 3},
		{impl.MaxNow, 20000},
	} {
		half := len(numbers) / 2
		if !slices.Equal(numbers[:half], numbers[half:]) {
			t.Error(i, numbers)
		}
	}
}

func TestCallOk(t *testing.T) {
	for _, c := range rightCalls() {
		if !impl.CallOk(c) {
			t.Errorf("refused: %v", c)
		}
	}
	for why, c := range wrongCalls() {
		if impl.CallOk(c) {
			t.Errorf("%s: accepted: %v", why, c)
		}
	}
	for _, c := range askedCalls() {
		if got := impl.CallOk(c); got != wantedCall(c) {
			t.Fatalf("CallOk(%v) = %v", c, got)
		}
	}
}

func TestCallOkOfAllValues(t *testing.T) {
	for value := int64(-3); value <= 1003; value++ {
		for code := int64(-3); code <= 6; code++ {
			c := impl.Call{Code: code, Key: 50, Value: value}
			if got := impl.CallOk(c); got != wantedCall(c) {
				t.Fatalf("CallOk(%v) = %v", c, got)
			}
		}
	}
}

func TestReplyOkByHand(t *testing.T) {
	for _, c := range rightCalls() {
		if !impl.ReplyOk(c, impl.RpYes) || !impl.ReplyOk(c, impl.RpNo) || impl.ReplyOk(c, 0) || impl.ReplyOk(c, 4) {
			t.Errorf("replies of %v", c)
		}
	}
	if !impl.ReplyOk(put(0, 0), impl.RpFull) || impl.ReplyOk(get(0), impl.RpFull) || impl.ReplyOk(cut(0), impl.RpFull) {
		t.Error("RpFull is of OpPut only")
	}
	for why, c := range wrongCalls() {
		for reply := int64(-1); reply <= 4; reply++ {
			if impl.ReplyOk(c, reply) {
				t.Errorf("%s: reply %d of %v", why, reply, c)
			}
		}
	}
}

// TestReplyOk tells the first half of promise 8: what is replied is one of what may be.
func TestReplyOk(t *testing.T) {
	for _, c := range askedCalls() {
		for _, reply := range []int64{least, -2, -1, 0, 1, 2, 3, 4, 5, most} {
			if want := slices.Contains(wantedReplies(c), reply); impl.ReplyOk(c, reply) != want {
				t.Fatalf("ReplyOk(%v, %d) = %v", c, reply, !want)
			}
		}
	}
}

func TestHandOk(t *testing.T) {
	for what, h := range rightHands() {
		if !impl.HandOk(h) {
			t.Errorf("%s: refused: %+v", what, h)
		}
	}
	for what, h := range basesOfHands() {
		if !impl.HandOk(h) {
			t.Errorf("%s: refused: %+v", what, h)
		}
	}
	for why, h := range wrongHands() {
		if impl.HandOk(h) {
			t.Errorf("%s: accepted: %+v", why, h)
		}
	}
}

// TestHandOkOfAllNumbers tries each number of each field that may be, and a few on both sides.
func TestHandOkOfAllNumbers(t *testing.T) {
	for what, base := range basesOfHands() {
		for _, field := range handFields() {
			for n := int64(-3); n <= field.greatest+3; n++ {
				h := base
				*field.of(&h) = n
				if got := impl.HandOk(h); got != wantedHand(h) {
					t.Fatalf("%s, %s: HandOk(%+v) = %v", what, field.name, h, got)
				}
			}
		}
	}
}

func TestHandOkOfAllCalls(t *testing.T) {
	for _, c := range askedCalls() {
		for at := int64(-1); at <= 12; at++ {
			for _, h := range []impl.Hand{{At: at, Call: c}, filledHand(at, c)} {
				if got := impl.HandOk(h); got != wantedHand(h) {
					t.Fatalf("HandOk(%+v) = %v", h, got)
				}
			}
		}
	}
}

func TestHandOkOfAllNumbersOnTheStack(t *testing.T) {
	for count := range 9 {
		for i := range max(count, 1) {
			for n := int64(-3); n <= impl.MaxNodes+3; n++ {
				numbers := slices.Repeat([]int64{20}, count)
				if count > 0 {
					numbers[i] = n
				}
				for _, h := range []impl.Hand{onStack(impl.Hand{}, numbers...), onStack(filledHand(impl.AtTop, put(1, 1)), numbers...)} {
					if got := impl.HandOk(h); got != wantedHand(h) {
						t.Fatalf("HandOk(%+v) = %v", h, got)
					}
				}
			}
		}
	}
}

// drawnHand has numbers in its fields of which a few pass their limits.
func drawnHand(draw func(n int64) int64) impl.Hand {
	calls := rightCalls()
	h := impl.Hand{Call: calls[draw(int64(len(calls)))], Stack: make([]int64, draw(8))}
	if draw(4) == 0 {
		h.Call = impl.Call{Code: draw(4), Key: draw(2) * draw(102), Value: draw(2) * draw(1002)}
	}
	for _, field := range handFields() {
		*field.of(&h) = draw(field.greatest + 1)
		if draw(40) == 0 {
			*field.of(&h) = draw(2)*(field.greatest+2) - 1
		}
	}
	if draw(3) == 0 {
		h = atRest(h)
	}
	for i := range h.Stack {
		h.Stack[i] = draw(41 - draw(2))
	}
	return h
}

func TestDrawnHands(t *testing.T) {
	draw := drawsFrom(8)
	kinds := map[[2]int64]int{}
	for range 20000 {
		h := drawnHand(draw)
		if got := impl.HandOk(h); got != wantedHand(h) {
			t.Fatalf("HandOk(%+v) = %v", h, got)
		}
		c := impl.Call{Code: draw(4), Key: draw(101), Value: draw(2) * draw(1001)}
		want := wantedCalled(h, c)
		wantCalled(t, "drawn", h, c, want)
		kinds[[2]int64{want.code, min(h.At, 1)}]++
	}
	for _, kind := range [][2]int64{{0, 0}, {1, 1}, {2, 0}, {3, 0}, {3, 1}} {
		if kinds[kind] < 100 {
			t.Fatal("too few of a kind were drawn", kinds)
		}
	}
}

func TestResting(t *testing.T) {
	numbers := []int64{least, -2, -1, 0, 1, 2, 3, 4, 5, 500, 998, 999, 1000, 1001, most}
	for _, reply := range numbers {
		for _, out := range numbers {
			got := impl.Resting(reply, out)
			if want := (impl.Hand{Reply: reply, Out: out}); !sameHand(got, want) {
				t.Fatalf("Resting(%d, %d) = %+v", reply, out, got)
			}
			if right := reply >= 0 && reply <= 3 && out >= 0 && out <= 999; impl.HandOk(got) != right {
				t.Fatalf("HandOk(%+v) = %v", got, !right)
			}
		}
	}
}

func TestCalledByHand(t *testing.T) {
	rested := impl.Resting(impl.RpYes, 5)
	filled := filledHand(impl.AtRest, get(4))
	for _, c := range []impl.Call{get(99), put(7, 999), put(0, 0), cut(5)} {
		begun := called{impl.Hand{At: impl.AtRoot, Call: c, Key: c.Key}, impl.CdOk}
		wantCalled(t, "rested", rested, c, begun)
		wantCalled(t, "zero", impl.Hand{}, c, begun)
		wantCalled(t, "filled", filled, c, begun)
		wantCalled(t, "greatest", atRest(greatestHand(put(9, 9))), c, begun)
		for at := int64(1); at <= impl.AtSwing; at++ {
			busy := filledHand(at, put(3, 33))
			wantCalled(t, "busy", busy, c, called{busy, impl.CdBusy})
		}
		wantCalled(t, "of no At", impl.Hand{At: 12}, c, called{code: impl.CdWrong})
	}
	for why, c := range wrongCalls() {
		wantCalled(t, why, rested, c, called{rested, impl.CdUnfit})
		wantCalled(t, why, filled, c, called{filled, impl.CdUnfit})
		busy := filledHand(impl.AtSwing, put(3, 33))
		wantCalled(t, why, busy, c, called{busy, impl.CdBusy})
		wantCalled(t, why, impl.Hand{At: impl.AtRoot}, c, called{code: impl.CdWrong})
	}
}

func TestCalledOfAllHands(t *testing.T) {
	for _, hands := range []map[string]impl.Hand{rightHands(), wrongHands(), basesOfHands()} {
		for what, h := range hands {
			for _, c := range rightAndWrongCalls() {
				wantCalled(t, what, h, c, wantedCalled(h, c))
			}
		}
	}
}

func TestCalledOfAllCalls(t *testing.T) {
	for _, c := range askedCalls() {
		for what, h := range basesOfHands() {
			wantCalled(t, what, h, c, wantedCalled(h, c))
		}
	}
}

// TestAskedOnceAtATime tells the second half of promise 8: who is called is busy till he rests, whatever else is called.
func TestAskedOnceAtATime(t *testing.T) {
	for _, first := range rightCalls() {
		h, code := impl.Called(impl.Resting(impl.RpNo, 0), first)
		if code != impl.CdOk || !impl.HandOk(h) {
			t.Fatalf("%v: %+v, %d", first, h, code)
		}
		for at := int64(1); at <= impl.AtSwing; at++ {
			h.At = at
			for _, c := range rightAndWrongCalls() {
				wantCalled(t, "at work", h, c, called{h, impl.CdBusy})
			}
		}
		for _, second := range rightCalls() {
			begun := called{impl.Hand{At: impl.AtRoot, Call: second, Key: second.Key}, impl.CdOk}
			wantCalled(t, "at rest again", impl.Resting(impl.RpYes, 3), second, begun)
			wantCalled(t, "at rest, with its call", atRest(h), second, begun)
		}
	}
}

// TestHandHasItsCall: the fields of the call are the hand's, but for Key, which is the hand's own.
func TestHandHasItsCall(t *testing.T) {
	h := filledHand(impl.AtDown, put(9, 99))
	if h.Code != impl.OpPut || h.Value != 99 || h.Key != 41 || h.Call.Key != 9 {
		t.Fatalf("%+v", h)
	}
	h.Key = 42
	if h.Call != put(9, 99) {
		t.Fatalf("%+v", h)
	}
}

// noNode stands in the spare room behind a Stack.
const noNode = -77

// wantHandStayed fails unless a Hand with roomBehind its Stack is as it was, and its spare room too.
func wantHandStayed(t *testing.T, arg, was impl.Hand) {
	t.Helper()
	if !sameHand(arg, was) {
		t.Fatalf("%+v was %+v", arg, was)
	}
	for _, n := range arg.Stack[len(arg.Stack):cap(arg.Stack)] {
		if n != noNode {
			t.Fatalf("spare room behind %+v was written: %d", was, n)
		}
	}
}

func spareHand(h impl.Hand) impl.Hand {
	h.Stack = roomBehind(h.Stack, noNode)
	return h
}

// TestArgumentsOfHandsStay, and what is answered is nobody else's: it is written all over.
func TestArgumentsOfHandsStay(t *testing.T) {
	calls := []impl.Call{get(3), put(3, 4), cut(5), {}, {Code: 4}}
	for _, hands := range []map[string]impl.Hand{rightHands(), wrongHands(), basesOfHands()} {
		for _, was := range hands {
			h := spareHand(was)
			impl.HandOk(h)
			for _, c := range calls {
				got, _ := impl.Called(h, c)
				room := got.Stack[:cap(got.Stack)]
				for i := range room {
					room[i] = -55
				}
				wantHandStayed(t, h, was)
			}
		}
	}
}

// TestSpareRoomOfHandsIsNotRead: what stands behind the Stack is none of the hand's.
func TestSpareRoomOfHandsIsNotRead(t *testing.T) {
	for what, h := range rightHands() {
		spare := spareHand(h)
		if !impl.HandOk(spare) {
			t.Fatalf("%s: refused: %+v", what, h)
		}
		for _, c := range []impl.Call{get(3), put(3, 4), {}} {
			want, code := impl.Called(h, c)
			wantCalled(t, what, spare, c, called{want, code})
		}
	}
}
