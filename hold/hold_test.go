package hold_test

import (
	"fmt"
	"math"
	"slices"
	"strings"
	"testing"

	"casebook/api"
	"casebook/hold"
)

// begun answers a new one of what may be.
func begun(t *testing.T, n int) *hold.Hold {
	t.Helper()
	h, e := hold.New(n)
	if h == nil || e != api.OK {
		t.Fatalf("New(%d): %v, %d", n, h, e)
	}
	return h
}

// times are moments of all kinds that may be, rising.
func times() []int {
	return []int{0, 1, 2, 10, 19, 20, 21, 1000, 1 << 32, api.MaxTick - 20, api.MaxTick - 1, api.MaxTick}
}

// noTimes are moments that may not be.
func noTimes() []int {
	return []int{math.MinInt, math.MinInt + 1, -api.MaxTick, -1 << 32, -20, -2, -1, api.MaxTick + 1, api.MaxTick + 2, 2 * api.MaxTick, math.MaxInt - 20, math.MaxInt - 1, math.MaxInt}
}

// epochs are all kinds of them that may be.
func epochs() []int { return []int{1, 2, 3, 1000, api.MaxEpoch - 1, api.MaxEpoch} }

// noEpochs are some that may not be.
func noEpochs() []int {
	return []int{math.MinInt, -api.MaxEpoch, -2, -1, 0, api.MaxEpoch + 1, api.MaxEpoch + 2, 1 << 32, 1<<32 + 1, math.MaxInt}
}

// noNodes are nodes that a cluster of n has not.
func noNodes(n int) []int {
	return []int{math.MinInt, math.MinInt + 1, -1 << 32, -n, -2, -1, n, n + 1, api.MaxNodes, api.MaxNodes + 1, 64, 1 << 32, 1<<32 + n - 1, math.MaxInt - 1, math.MaxInt}
}

// noIds are numbers that the questions from first to last have not.
func noIds(first, last int) []int {
	return []int{math.MinInt, math.MinInt + 1, -1 << 32, -4, -3, -2, -1, 0, first - 4, first - 1, last + 1, last + 2, last + 4, 1 << 32, 1<<32 + last, math.MaxInt - 1, math.MaxInt}
}

// wantAsk fails unless a question gets this number.
func wantAsk(t *testing.T, h *hold.Hold, now, epoch, want int) {
	t.Helper()
	if id := h.Ask(now, epoch); id != want {
		t.Errorf("Ask(%d, %d): %d; not %d", now, epoch, id, want)
	}
}

// wantTold fails unless nodes are counted for a question, or not.
func wantTold(t *testing.T, h *hold.Hold, id int, want bool, nodes ...int) {
	t.Helper()
	for _, node := range nodes {
		if h.Told(id, node) != want {
			t.Errorf("Told(%d, %d): %t", id, node, !want)
		}
	}
}

// wantValid fails unless a lease is valid, or not.
func wantValid(t *testing.T, h *hold.Hold, now, epoch int, want bool) {
	t.Helper()
	if h.Valid(now, epoch) != want {
		t.Errorf("Valid(%d, %d): %t", now, epoch, !want)
	}
}

// wantLeases fails unless an epoch has leases from just these times on, rising, each for 20 ticks, and none else.
func wantLeases(t *testing.T, h *hold.Hold, epoch int, asked ...int) {
	t.Helper()
	is := func(now int) bool {
		return slices.ContainsFunc(asked, func(at int) bool { return at <= now && now < at+20 })
	}
	moments := append(times(), noTimes()...)
	for _, at := range asked {
		for ticks := -25; ticks <= 25; ticks++ {
			moments = append(moments, at+ticks)
		}
	}
	for _, now := range moments {
		wantValid(t, h, now, epoch, is(now))
	}
}

// without answers what is in a list, but one.
func without(l []int, x int) []int {
	return slices.DeleteFunc(slices.Clone(l), func(y int) bool { return y == x })
}

// wantNone fails unless no epoch has a lease.
func wantNone(t *testing.T, h *hold.Hold, at ...int) {
	t.Helper()
	for _, epoch := range append(epochs(), noEpochs()...) {
		for _, now := range slices.Concat(times(), noTimes(), at) {
			wantValid(t, h, now, epoch, false)
		}
	}
}

// 16.1: New

func TestNew(t *testing.T) {
	for n := 1; n <= api.MaxNodes; n++ {
		h := begun(t, n)
		wantNone(t, h)
		for _, id := range append(noIds(1, 0), 1, 2, 3, 4) { // no question was asked
			wantTold(t, h, id, false, 0, n-1)
		}
		wantNone(t, h)
		wantAsk(t, h, 0, 1, 1)
	}
}

func TestNewOfWhatMayNotBe(t *testing.T) {
	for _, n := range []int{math.MinInt, -1 << 32, -api.MaxNodes, -2, -1, 0, api.MaxNodes + 1, api.MaxNodes + 2, 1 << 32, 1<<32 + 1, math.MaxInt - 1, math.MaxInt} {
		if h, e := hold.New(n); h != nil || e != api.ErrArg {
			t.Errorf("New(%d): %v, %d", n, h, e)
		}
	}
}

func TestNewOnesAreApart(t *testing.T) {
	one, two := begun(t, 2), begun(t, 3)
	wantAsk(t, one, 10, 1, 1)
	wantAsk(t, one, 11, 1, 2)
	wantAsk(t, two, 5, 1, 1)
	wantTold(t, one, 1, true, 0, 1)
	wantLeases(t, one, 1, 10)
	wantNone(t, two)
	wantTold(t, two, 1, true, 0, 2)
	two.Lost()
	wantLeases(t, one, 1, 10)
}

// 16.1: Ask

func TestAskGivesOneNumberBehindTheOther(t *testing.T) {
	for n := 1; n <= api.MaxNodes; n++ {
		h := begun(t, n)
		for id := 1; id <= 100; id++ {
			wantAsk(t, h, id/3, 1+id%7, id)
		}
	}
}

func TestAskAtEachTime(t *testing.T) {
	for _, now := range times() {
		for _, epoch := range epochs() {
			h := begun(t, 1)
			wantAsk(t, h, now, epoch, 1)
			wantTold(t, h, 1, true, 0)
			wantLeases(t, h, epoch, now)
			for _, other := range without(append(epochs(), noEpochs()...), epoch) {
				wantValid(t, h, now, other, false)
			}
		}
	}
}

// Not below the last question's time, also where that was of another epoch, or nobody was counted for it; but at the same one.
func TestAskIsNotBelowTheLastOne(t *testing.T) {
	for _, last := range times() {
		for _, epoch := range epochs() {
			h := begun(t, 1)
			wantAsk(t, h, last, epoch, 1)
			id := 1
			for _, now := range append(times(), last-1, last-20) {
				if now < last {
					wantAsk(t, h, now, 1, -1)
					wantAsk(t, h, now, epoch, -1)
				}
			}
			for _, now := range times() {
				if now >= last {
					id++
					wantAsk(t, h, now, 1, id)
				}
			}
		}
	}
}

// An epoch may be any: also a lesser one than the last question's.
func TestAskOfAnyEpoch(t *testing.T) {
	h := begun(t, 3)
	for k, epoch := range []int{7, 7, 3, api.MaxEpoch, 1, 2, api.MaxEpoch, 1} {
		wantAsk(t, h, 10, epoch, k+1)
	}
}

// What is not asked has no number, moves no time, and takes no place.
func TestAskThatMayNotBeIsNone(t *testing.T) {
	h := begun(t, 3)
	bad := func() {
		for _, now := range append(noTimes(), 0, 50, 98, 99) {
			for _, epoch := range append(epochs(), noEpochs()...) {
				wantAsk(t, h, now, epoch, -1)
			}
		}
		for _, now := range append(times(), 100, 103, 104) {
			for _, epoch := range noEpochs() {
				wantAsk(t, h, now, epoch, -1)
			}
		}
	}
	wantAsk(t, h, 100, 1, 1)
	wantTold(t, h, 1, true, 0)
	bad()
	wantTold(t, h, 2, false, 0, 1, 2)
	wantTold(t, h, 1, true, 1)
	wantLeases(t, h, 1, 100)
	for id := 2; id <= 4; id++ {
		wantAsk(t, h, 100+id, 1, id)
		wantAsk(t, h, 99+id, 1, -1)
		bad()
		wantLeases(t, h, 1, 100)
	}
	wantAsk(t, h, 104, 1, 5)
	wantNone(t, h, 100, 101, 104)
}

func TestAskThatMayNotBeIsNoneAtFirst(t *testing.T) {
	h := begun(t, 3)
	for _, now := range noTimes() {
		wantAsk(t, h, now, 1, -1)
	}
	for _, epoch := range noEpochs() {
		wantAsk(t, h, 10, epoch, -1)
	}
	wantAsk(t, h, 0, 1, 1)
}

// 16.1: Told

// Ask(10, 1), two of three told: Valid(29, 1), not Valid(30, 1).
func TestExampleOfTheDocument(t *testing.T) {
	h := begun(t, 3)
	wantAsk(t, h, 10, 1, 1)
	wantTold(t, h, 1, true, 0)
	wantNone(t, h, 10, 29)
	wantTold(t, h, 1, true, 2)
	for now := range 60 {
		wantValid(t, h, now, 1, now >= 10 && now <= 29)
	}
}

// sets are all sets of nodes of a cluster.
func sets(n int) [][]int {
	var l [][]int
	for bits := range 1 << n {
		var set []int
		for node := range n {
			if bits>>node%2 == 1 {
				set = append(set, node)
			}
		}
		l = append(l, set)
	}
	return l
}

// Each set of nodes told, in any order and more than once: it is a lease just if they are a majority.
func TestToldByEachSetOfNodes(t *testing.T) {
	for n := 1; n <= api.MaxNodes; n++ {
		for _, set := range sets(n) {
			for id := 1; id <= 4; id++ {
				h := begun(t, n)
				for k := range 4 {
					wantAsk(t, h, 100*k, 3, k+1)
				}
				wantTold(t, h, id, true, set...)
				slices.Reverse(set)
				wantTold(t, h, id, true, set...)
				if len(set) > n/2 {
					wantLeases(t, h, 3, 100*(id-1))
				} else {
					wantNone(t, h, 0, 100, 200, 300)
				}
			}
		}
	}
}

func TestToldTwiceIsOne(t *testing.T) {
	for n := 2; n <= api.MaxNodes; n++ {
		for node := range n {
			h := begun(t, n)
			wantAsk(t, h, 10, 1, 1)
			for range 10 {
				wantTold(t, h, 1, true, node)
				wantNone(t, h, 10, 29)
			}
		}
	}
}

func TestToldByNone(t *testing.T) {
	for n := 1; n <= api.MaxNodes; n++ {
		h := begun(t, n)
		wantAsk(t, h, 10, 1, 1)
		wantTold(t, h, 1, false, noNodes(n)...)
		wantNone(t, h, 10, 29)
		for node := range n / 2 {
			wantTold(t, h, 1, true, node)
		}
		wantTold(t, h, 1, false, noNodes(n)...)
		wantNone(t, h, 10, 29) // one more would be a majority
		wantTold(t, h, 1, true, n-1)
		wantLeases(t, h, 1, 10)
	}
}

// Of what is no question any more, or not yet.
func TestToldOfNoQuestion(t *testing.T) {
	h := begun(t, 1)
	for last := 1; last <= 30; last++ {
		wantAsk(t, h, 100*last, 1, last)
		first := max(last-3, 1)
		for _, id := range noIds(first, last) {
			wantTold(t, h, id, false, 0)
		}
		for id := range first {
			wantTold(t, h, id, false, 0)
		}
		wantValid(t, h, 100*last, 1, false)
		wantTold(t, h, last, true, 0)
		wantLeases(t, h, 1, askedFrom(first, last)...)
	}
}

// askedFrom are the times of questions, of which each was asked at a hundred times its number.
func askedFrom(first, last int) []int {
	var l []int
	for id := first; id <= last; id++ {
		l = append(l, 100*id)
	}
	return l
}

// Each of the last four is counted for itself, whichever is told when.
func TestToldOfEachOfTheLastFour(t *testing.T) {
	for last := 1; last <= 12; last++ {
		for id := max(last-3, 1); id <= last; id++ {
			h := begun(t, 3)
			for k := 1; k <= last; k++ {
				wantAsk(t, h, 100*k, 1, k)
			}
			wantTold(t, h, id, true, 1, 2)
			wantLeases(t, h, 1, 100*id)
		}
	}
}

// Yeses to several questions do not make one lease.
func TestToldOfSeveralIsNoMajority(t *testing.T) {
	h := begun(t, 5)
	for id := 1; id <= 4; id++ {
		wantAsk(t, h, 10, 1, id)
	}
	wantTold(t, h, 1, true, 0, 1)
	wantTold(t, h, 2, true, 2, 3)
	wantTold(t, h, 3, true, 4, 0)
	wantTold(t, h, 4, true, 1, 2)
	wantNone(t, h, 10, 29)
	wantTold(t, h, 2, true, 4)
	wantLeases(t, h, 1, 10)
}

// A place that is taken anew has nothing of who told of the question ahead in it.
func TestToldIsForOneQuestion(t *testing.T) {
	h := begun(t, 3)
	for id := 1; id <= 40; id++ {
		wantAsk(t, h, 100*id, 1, id)
		wantTold(t, h, id, true, id%3)
		wantNone(t, h, 100*id)
	}
}

// A yes to a question of another epoch than the last one's comes too late, or waits until one of its epoch is the last one again.
func TestToldOfAnotherEpoch(t *testing.T) {
	h := begun(t, 3)
	wantAsk(t, h, 10, 1, 1)
	wantTold(t, h, 1, true, 0)
	wantAsk(t, h, 20, 2, 2)
	wantTold(t, h, 1, false, 0, 1, 2)
	wantNone(t, h, 10, 20, 29)
	wantTold(t, h, 2, true, 1, 2)
	wantLeases(t, h, 2, 20)
	wantLeases(t, h, 1)
	wantAsk(t, h, 40, 1, 3)
	wantTold(t, h, 2, false, 0, 1, 2)
	wantTold(t, h, 1, true, 1) // of the last question's epoch
	wantLeases(t, h, 1, 10)
	wantTold(t, h, 3, true, 0, 1, 2)
	wantLeases(t, h, 1, 10, 40)
	wantLeases(t, h, 2, 20)
}

// 16.1: Valid

// Of the epoch that is asked of alone, also where others have leases.
func TestValidOfEachEpoch(t *testing.T) {
	h := begun(t, 1)
	for k, epoch := range []int{1, 2, 3, 4} {
		wantAsk(t, h, 5*k, epoch, k+1)
		wantTold(t, h, k+1, true, 0)
	}
	for k, epoch := range []int{1, 2, 3, 4} {
		wantLeases(t, h, epoch, 5*k)
	}
	wantLeases(t, h, 5)
	for _, epoch := range noEpochs() {
		wantLeases(t, h, epoch)
	}
	wantAsk(t, h, 15, 9, 5)
	wantLeases(t, h, 1) // it is none of the last four
	wantLeases(t, h, 2, 5)
	wantLeases(t, h, 9)
}

// Leases of one epoch, one behind the other: any of them is enough, and between them is none.
func TestValidOfAnyOfTheLastFour(t *testing.T) {
	h := begun(t, 3)
	asked := []int{0, 5, 25, 46, 66, 66, 87, 200, 201}
	for k, now := range asked {
		wantAsk(t, h, now, 1, k+1)
		wantLeases(t, h, 1, asked[max(k-3, 0):k]...)
		wantTold(t, h, k+1, true, 0)
		wantLeases(t, h, 1, asked[max(k-3, 0):k]...)
		wantTold(t, h, k+1, true, 1)
		wantLeases(t, h, 1, asked[max(k-3, 0):k+1]...)
	}
}

// A question that nobody tells of ends no lease, but for the fifth.
func TestValidBehindQuestionsThatNobodyTellsOf(t *testing.T) {
	h := begun(t, 3)
	wantAsk(t, h, 10, 1, 1)
	wantTold(t, h, 1, true, 0, 2)
	for id := 2; id <= 4; id++ {
		wantAsk(t, h, 10+id/3, id%2+1, id)
		wantLeases(t, h, 1, 10)
		wantAsk(t, h, 9, 1, -1)
		wantLeases(t, h, 1, 10)
	}
	wantAsk(t, h, 12, 1, 5)
	wantNone(t, h, 10, 11, 12)
}

func TestValidChangesNothing(t *testing.T) {
	h := begun(t, 3)
	wantAsk(t, h, 10, 1, 1)
	wantTold(t, h, 1, true, 0)
	wantNone(t, h, 10, 29, 30)
	wantAsk(t, h, 10, 1, 2)
	wantTold(t, h, 1, true, 1)
	for _, now := range []int{29, 30, 9, 10, 29} {
		wantValid(t, h, now, 1, now != 30 && now != 9)
	}
}

// 16.1: Lost

func TestLost(t *testing.T) {
	for n := 1; n <= api.MaxNodes; n++ {
		for last := range 10 {
			h := begun(t, n)
			for id := 1; id <= last; id++ {
				wantAsk(t, h, 100*id, 1, id)
				for node := range n {
					wantTold(t, h, id, true, node)
				}
			}
			h.Lost()
			wantNone(t, h, askedFrom(1, last)...)
			wantAsk(t, h, 100*last-1, 1, -1) // what was asked stays
			for id := max(last-3, 1); id <= last; id++ {
				wantLateLease(t, h, n, id)
			}
			wantAsk(t, h, 100*last, 1, last+1)
		}
	}
}

// wantLateLease fails unless all of a majority must tell anew.
func wantLateLease(t *testing.T, h *hold.Hold, n, id int) {
	t.Helper()
	for node := range n {
		wantValid(t, h, 100*id, 1, node > n/2)
		wantTold(t, h, id, true, node)
	}
	wantValid(t, h, 100*id+19, 1, true)
}

func TestLostOfSome(t *testing.T) {
	h := begun(t, 3)
	h.Lost()
	wantAsk(t, h, 10, 1, 1)
	wantTold(t, h, 1, true, 0)
	wantAsk(t, h, 11, 1, 2)
	wantTold(t, h, 2, true, 1)
	h.Lost()
	h.Lost()
	wantTold(t, h, 1, true, 2)
	wantTold(t, h, 2, true, 0)
	wantNone(t, h, 10, 11)
	wantTold(t, h, 2, true, 2)
	wantLeases(t, h, 1, 11)
}

// 16.2: it holds from when it was asked for

// However late who told it is counted, and whatever was asked between, a lease is over at the same time.
func TestALeaseHoldsFromWhenItWasAskedFor(t *testing.T) {
	for _, asked := range []int{0, 10, 1 << 32, api.MaxTick - 500} {
		for _, late := range []int{0, 1, 19, 20, 21, 100, 300} {
			for between := range 4 {
				h := begun(t, 5)
				wantAsk(t, h, asked, 4, 1)
				wantTold(t, h, 1, true, 4, 1)
				wantValid(t, h, asked+late, 4, false)
				for k := range between {
					wantAsk(t, h, asked+late, 4, k+2)
				}
				wantTold(t, h, 1, true, 0)
				wantLeases(t, h, 4, asked)
				wantValid(t, h, asked+late, 4, late < 20)
				wantTold(t, h, 1, true, 2, 3) // behind the majority: it holds no longer
				wantLeases(t, h, 4, asked)
			}
		}
	}
}

// Of nil, and of ones that New did not make.

func TestNobody(t *testing.T) {
	var none *hold.Hold
	for _, h := range []*hold.Hold{none, new(hold.Hold)} {
		for _, now := range append(times(), noTimes()...) {
			for _, epoch := range append(epochs(), noEpochs()...) {
				wantAsk(t, h, now, epoch, -1)
				wantValid(t, h, now, epoch, false)
			}
		}
		for _, id := range append(noIds(1, 0), 1, 2, 3, 4, 5) {
			wantTold(t, h, id, false, append(noNodes(1), 0, 1, 2, 3, 4)...)
		}
		h.Lost()
		wantNone(t, h)
	}
}

// What is handed in.

// No call panics, whatever it is given, and each says the same again.
func TestAnythingMayBeHandedIn(t *testing.T) {
	numbers := []int{math.MinInt, math.MinInt + 19, -21, -1, 0, 1, 2, 4, 5, 20, api.MaxEpoch, api.MaxTick, 1 << 62, math.MaxInt - 20, math.MaxInt}
	told := func() string {
		var s strings.Builder
		for _, n := range numbers {
			h, e := hold.New(n)
			fmt.Fprint(&s, e)
			for _, a := range numbers {
				for _, b := range numbers {
					fmt.Fprint(&s, h.Ask(a, b), h.Told(a, b), h.Valid(a, b))
				}
				h.Lost()
			}
		}
		return s.String()
	}
	if told() != told() {
		t.Error("the same calls answer otherwise")
	}
}
