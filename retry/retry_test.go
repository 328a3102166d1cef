package retry_test

import (
	"fmt"
	"math"
	"math/big"
	"slices"
	"strings"
	"testing"

	"casebook/api"
	"casebook/retry"
)

// 20.1: Wait

// Wait(1): 8; Wait(9): 32.
func TestExampleOfTheDocument(t *testing.T) {
	if one, nine := retry.Wait(1), retry.Wait(9); one != 8 || nine != 32 {
		t.Errorf("%d, %d", one, nine)
	}
}

func TestWait(t *testing.T) {
	for _, x := range []struct{ tries, ticks int }{
		{1, 8}, {2, 16}, {3, 24}, {4, 32}, // Back times tries
		{5, 32}, {6, 32}, {7, 32}, {100, 32}, {1 << 30, 32}, // at most 4 times Back
		{0, 0}, {-1, 0}, {-2, 0}, {-8, 0}, {-1 << 30, 0},
		{1 << 32, 32}, {1<<32 + 1, 32}, {-1<<32 + 1, 0}, // as they are, not what is left of them
		{1 << 59, 32}, {1 << 60, 32}, {1<<60 + 1, 32}, {1 << 61, 32}, {1<<61 + 1, 32}, {math.MaxInt/8 + 1, 32}, // Back times these is no number
		{math.MaxInt - 1, 32}, {math.MaxInt, 32}, {math.MinInt, 0}, {math.MinInt + 1, 0}, {math.MinInt/8 - 1, 0}, {-1<<61 + 1, 0},
	} {
		if got := retry.Wait(x.tries); got != x.ticks {
			t.Errorf("Wait(%d): %d; not %d", x.tries, got, x.ticks)
		}
	}
}

// 20.1: Due

// waits are the ticks behind so many tries.
func waits() map[int]int {
	return map[int]int{math.MinInt: 0, -1: 0, 0: 0, 1: 8, 2: 16, 3: 24, 4: 32, 5: 32, 40: 32, 1 << 61: 32, math.MaxInt: 32}
}

// Around the tick from which on it is due.
func TestDue(t *testing.T) {
	for tries, wait := range waits() {
		for _, asked := range []int{0, 1, 7, 8, 9, 1000, 1 << 32, api.MaxTick - 33, api.MaxTick, api.MaxTick + 1, math.MaxInt - 50} {
			for ticks := -40; ticks <= 50; ticks++ {
				now := asked + ticks
				want := now >= 0 && ticks >= wait && ticks >= 0
				if got := retry.Due(now, asked, tries); got != want {
					t.Errorf("Due(%d, %d, %d): %t", now, asked, tries, got)
				}
			}
		}
	}
}

// times are moments of all kinds, also such as no clock shows.
func times() []int {
	return []int{
		math.MinInt, math.MinInt + 1, math.MinInt + 8, math.MinInt + 32, -api.MaxTick, -1 << 32, -33, -32, -31, -9, -8, -7, -1,
		0, 1, 7, 8, 9, 16, 24, 31, 32, 33, 1 << 32, 1<<32 + 8, api.MaxTick - 8, api.MaxTick, math.MaxInt - 32, math.MaxInt - 8, math.MaxInt - 7, math.MaxInt - 1, math.MaxInt,
	}
}

// At any two times: told by numbers without bounds.
func TestDueAtAnyTimes(t *testing.T) {
	for tries, wait := range waits() {
		for _, now := range times() {
			for _, asked := range times() {
				behind := new(big.Int).Sub(big.NewInt(int64(now)), big.NewInt(int64(asked)))
				want := now >= 0 && asked >= 0 && behind.Sign() >= 0 && behind.Cmp(big.NewInt(int64(wait))) >= 0
				if got := retry.Due(now, asked, tries); got != want {
					t.Errorf("Due(%d, %d, %d): %t", now, asked, tries, got)
				}
			}
		}
	}
}

// Below 0 nothing is due, however far behind the other one is, and however few tries there were.
func TestDueBelowZero(t *testing.T) {
	for tries := range waits() {
		for _, x := range [][2]int{{-1, -1}, {-1, -100}, {100, -1}, {100, -100}, {-1, 0}, {0, -1}, {math.MaxInt, math.MinInt}, {math.MaxInt, -1}, {-1, math.MinInt}} {
			if retry.Due(x[0], x[1], tries) {
				t.Errorf("Due(%d, %d, %d)", x[0], x[1], tries)
			}
		}
	}
}

// 20.2: Target

// chainOf answers a chain of these.
func chainOf(nodes ...int) api.Chain { return api.Chain{Epoch: 7, Nodes: nodes} }

// wantTarget fails unless this one is to be asked.
func wantTarget(t *testing.T, known api.Chain, n, tries int, writes bool, want int) {
	t.Helper()
	if got := retry.Target(known, n, tries, writes); got != want {
		t.Errorf("Target(%v, %d, %d, %t): %d; not %d", known, n, tries, writes, got, want)
	}
}

func TestTargetOfAKnownChain(t *testing.T) {
	for _, x := range []struct {
		nodes       []int
		tries       int
		write, read int
	}{
		{[]int{0, 1, 2}, 1, 0, 1}, {[]int{0, 1, 2}, 2, 0, 2}, // the head; the place of the try
		{[]int{4, 2, 0}, 1, 4, 2}, {[]int{4, 2, 0}, 2, 4, 0},
		{[]int{3, 1}, 1, 3, 1}, {[]int{3, 1}, 2, 3, 3}, // 2 modulo 2
		{[]int{4}, 1, 4, 4}, {[]int{4}, 2, 4, 4},
		{[]int{4, 3, 2, 1, 0}, 1, 4, 3}, {[]int{4, 3, 2, 1, 0}, 2, 4, 2},
		{[]int{4, 3, 2, 1, 0}, 3, 3, 3}, {[]int{4, 3, 2, 1, 0}, 4, 4, 4}, {[]int{4, 3, 2, 1, 0}, 5, 0, 0}, {[]int{4, 3, 2, 1, 0}, 6, 1, 1}, // tries modulo n
		{[]int{4}, 3, 3, 3}, {[]int{4}, 10, 0, 0}, {[]int{4}, 11, 1, 1},
		{[]int{4}, 0, 0, 0}, {[]int{4}, -1, 0, 0}, {[]int{4}, -3, 0, 0}, // none of the first two
	} {
		wantTarget(t, chainOf(x.nodes...), 5, x.tries, true, x.write)
		wantTarget(t, chainOf(x.nodes...), 5, x.tries, false, x.read)
	}
}

// numbersOfTries are tries of all kinds.
func numbersOfTries() []int {
	return []int{math.MinInt, math.MinInt + 1, -1 << 32, -1<<32 + 1, -5, -2, -1, 0, 1, 2, 3, 4, 5, 6, 7, 8, 9, 10, 11, 1<<30 + 1, 1<<32 + 1, 1<<32 + 2, math.MaxInt - 1, math.MaxInt}
}

// Without nodes that are known, and behind the first two tries, it is each one's turn.
func TestTargetByTurns(t *testing.T) {
	for n := 1; n <= 7; n++ {
		for _, tries := range numbersOfTries() {
			want := 0
			if tries > 0 {
				want = tries % n
			}
			for _, writes := range []bool{false, true} {
				wantTarget(t, api.Chain{}, n, tries, writes, want)
				wantTarget(t, api.Chain{Epoch: 3}, n, tries, writes, want)
				wantTarget(t, api.Chain{Epoch: 3, Nodes: []int{}}, n, tries, writes, want)
				if tries < 1 || tries > 2 {
					wantTarget(t, chainOf(n-1), n, tries, writes, want)
					wantTarget(t, chainOf(n-1, 0), n, tries, writes, want)
				}
			}
		}
	}
}

// noNodes are nodes that a cluster of n has not.
func noNodes(n int) []int {
	return []int{math.MinInt, math.MinInt + 1, -1 << 32, -n, -1, n, n + 1, 1 << 32, 1<<32 + n - 1, math.MaxInt - 1, math.MaxInt}
}

// One node that is none, wherever it stands: nobody of the chain is asked for its place.
func TestTargetOfAChainOfOthers(t *testing.T) {
	for n := 1; n <= 5; n++ {
		for size := 1; size <= 5; size++ {
			for place := range size {
				for _, none := range noNodes(n) {
					nodes := slices.Repeat([]int{0}, size)
					nodes[place] = none
					for _, tries := range numbersOfTries() {
						wantTarget(t, chainOf(nodes...), n, tries, true, max(tries, 0)%n)
						wantTarget(t, chainOf(nodes...), n, tries, false, max(tries, 0)%n)
					}
				}
			}
		}
	}
}

func TestTargetOfNoCluster(t *testing.T) {
	for _, n := range []int{math.MinInt, math.MinInt + 1, -1 << 32, -5, -1, 0} {
		for _, known := range []api.Chain{{}, chainOf(0), chainOf(0, 1, 2), chainOf(-1), chainOf(n), chainOf(n-1, n)} {
			for _, tries := range numbersOfTries() {
				wantTarget(t, known, n, tries, true, -1)
				wantTarget(t, known, n, tries, false, -1)
			}
		}
	}
}

// A chain is asked for its nodes alone: it need not be one that may be, nor a cluster one that may be.
func TestTargetOfAnyChain(t *testing.T) {
	for _, epoch := range []int{math.MinInt, -1, 0, 1, api.MaxEpoch, api.MaxEpoch + 1, math.MaxInt} {
		for tries, read := range map[int]int{1: 2, 2: 1} {
			wantTarget(t, api.Chain{Epoch: epoch, Nodes: []int{1, 2}}, 3, tries, true, 1)
			wantTarget(t, api.Chain{Epoch: epoch, Nodes: []int{1, 2}}, 3, tries, false, read)
		}
	}
	for tries, read := range map[int]int{1: 2, 2: 7} {
		wantTarget(t, chainOf(1, 2, 7, 6, 5, 4, 3), 8, tries, true, 1) // more than MaxNodes
		wantTarget(t, chainOf(1, 2, 7, 6, 5, 4, 3), 8, tries, false, read)
	}
	wantTarget(t, chainOf(1, 1), 2, 1, false, 1) // one node twice
	wantTarget(t, chainOf(1, 1), 2, 2, true, 1)
	wantTarget(t, chainOf(math.MaxInt-1, 1<<40), math.MaxInt, 1, true, math.MaxInt-1)
	wantTarget(t, chainOf(math.MaxInt-1, 1<<40), math.MaxInt, 1, false, 1<<40)
	wantTarget(t, chainOf(math.MaxInt-1, 1<<40), math.MaxInt, math.MaxInt-1, false, math.MaxInt-1)
	wantTarget(t, chainOf(math.MaxInt-1, 1<<40), math.MaxInt, math.MaxInt, false, 0)
}

// byWords answers whom to ask, told by the chapter's words.
func byWords(known api.Chain, n, tries int, writes bool) int {
	if n < 1 {
		return -1
	}
	there := func(node int) bool { return node >= 0 && node < n }
	all := len(known.Nodes) > 0
	for _, node := range known.Nodes {
		all = all && there(node)
	}
	switch {
	case (tries == 1 || tries == 2) && all && writes:
		return known.Nodes[0]
	case (tries == 1 || tries == 2) && all:
		return known.Nodes[tries%len(known.Nodes)]
	case tries < 0:
		return 0
	}
	return tries % n
}

// rows answers all rows of at most so many of these.
func rows(most int, of []int) [][]int {
	all := [][]int{nil}
	for first := 0; most > 0; most-- {
		next := len(all)
		for _, row := range all[first:next] {
			for _, x := range of {
				all = append(all, append(slices.Clone(row), x))
			}
		}
		first = next
	}
	return all
}

// Of each row of nodes and others, each try, each size of the cluster.
func TestTargetOfEachRow(t *testing.T) {
	for _, nodes := range rows(4, []int{-1, 0, 1, 2, 3, 4, 5}) {
		known := chainOf(nodes...)
		for n := -1; n <= 6; n++ {
			for tries := -2; tries <= 8; tries++ {
				wantTarget(t, known, n, tries, true, byWords(known, n, tries, true))
				wantTarget(t, known, n, tries, false, byWords(known, n, tries, false))
			}
		}
		if !slices.Equal(known.Nodes, nodes) {
			t.Fatalf("%v is %v now", nodes, known.Nodes)
		}
	}
}

// 20.3: in a few tries everybody is asked

// asked answers who is asked in the tries from first to last.
func asked(known api.Chain, n, first, last int, writes bool) []int {
	var l []int
	for tries := first; tries <= last; tries++ {
		if node := retry.Target(known, n, tries, writes); !slices.Contains(l, node) {
			l = append(l, node)
		}
	}
	slices.Sort(l)
	return l
}

// all answers the nodes of a cluster of n.
func all(n int) []int {
	var l []int
	for node := range n {
		l = append(l, node)
	}
	return l
}

// Whatever is known: in the first n + 2 tries, and in each n tries behind the first two.
func TestEverybodyIsAsked(t *testing.T) {
	for n := 1; n <= api.MaxNodes; n++ {
		for _, nodes := range rows(3, []int{-1, 0, 1, 2, 3, 4}) {
			for _, writes := range []bool{false, true} {
				if got := asked(chainOf(nodes...), n, 1, n+2, writes); !slices.Equal(got, all(n)) {
					t.Errorf("%v of %d: in %d tries %v", nodes, n, n+2, got)
				}
				for first := 3; first < 15; first++ {
					if got := asked(chainOf(nodes...), n, first, first+n-1, writes); !slices.Equal(got, all(n)) {
						t.Errorf("%v of %d: from the try %d on %v", nodes, n, first, got)
					}
				}
			}
		}
	}
}

// A client that gets no answer asks again as soon as that is due, once in each tick at most: everybody was asked behind so many ticks.
func TestEverybodyIsAskedSoon(t *testing.T) {
	for n, ticks := range map[int]int{1: 8 + 16, 2: 8 + 16 + 24, 3: 8 + 16 + 24 + 32, 4: 8 + 16 + 24 + 2*32, 5: 8 + 16 + 24 + 3*32} {
		for _, nodes := range rows(2, all(n)) {
			for _, writes := range []bool{false, true} {
				known := chainOf(nodes...)
				tries, at := 1, 1000
				who := []int{retry.Target(known, n, tries, writes)}
				for now := 1000; now <= 1000+ticks; now++ {
					if retry.Due(now, at, tries) {
						tries, at = tries+1, now
						who = append(who, retry.Target(known, n, tries, writes))
					}
				}
				if tries != n+2 || at != 1000+ticks {
					t.Errorf("%d nodes: %d tries, the last one at %d", n, tries, at)
				}
				slices.Sort(who)
				if got := slices.Compact(who); !slices.Equal(got, all(n)) {
					t.Errorf("%v of %d: behind %d ticks %v", nodes, n, ticks, got)
				}
			}
		}
	}
}

// It takes so many: who knows a chain asks not everybody in fewer.
func TestNotEverybodyIsAskedSooner(t *testing.T) {
	for n := 3; n <= api.MaxNodes; n++ {
		if got := asked(chainOf(0), n, 1, n+1, true); slices.Equal(got, all(n)) {
			t.Errorf("of %d: %v", n, got)
		}
	}
}

// What is handed in.

// No call panics, whatever it is given, each says the same again, and a chain stays as it was.
func TestAnythingMayBeHandedIn(t *testing.T) {
	numbers := []int{math.MinInt, -1 << 61, -1 << 32, -8, -1, 0, 1, 2, 3, 5, 8, 32, 1 << 32, 1 << 61, math.MaxInt}
	told := func() string {
		var w strings.Builder
		for _, a := range numbers {
			fmt.Fprintln(&w, retry.Wait(a))
			for _, b := range numbers {
				for _, c := range numbers {
					known := api.Chain{Epoch: a, Nodes: []int{c, b, a, 0}}
					for _, size := range []int{0, 1, 4} {
						cut := api.Chain{Epoch: b, Nodes: known.Nodes[:size]}
						fmt.Fprintln(&w, retry.Due(a, b, c), retry.Target(cut, a, b, true), retry.Target(cut, b, a, false))
					}
					if known.Nodes[0] != c || known.Nodes[1] != b || known.Nodes[2] != a || known.Nodes[3] != 0 || len(known.Nodes) != 4 {
						t.Fatalf("%v", known)
					}
				}
			}
		}
		return w.String()
	}
	if told() != told() {
		t.Error("the same calls answer otherwise")
	}
}
