package watch_test

import (
	"fmt"
	"math"
	"slices"
	"strings"
	"testing"

	"casebook/api"
	"casebook/watch"
)

// begun answers a new one of what may be.
func begun(t *testing.T, n, self, now int) *watch.Watch {
	t.Helper()
	w, e := watch.New(n, self, now)
	if w == nil || e != api.OK {
		t.Fatalf("New(%d, %d, %d): %v, %d", n, self, now, w, e)
	}
	return w
}

// times are moments of all kinds at which one may begin, rising.
func times() []int {
	return []int{0, 1, 2, 10, 11, 12, 13, 1000, 1 << 32, api.MaxTick - 12, api.MaxTick - 11, api.MaxTick - 1, api.MaxTick}
}

// noTimes are moments at which none may begin.
func noTimes() []int {
	return []int{math.MinInt, math.MinInt + 1, math.MinInt + 12, -api.MaxTick, -1 << 32, -12, -11, -2, -1, api.MaxTick + 1, api.MaxTick + 2, 2 * api.MaxTick, math.MaxInt - 12, math.MaxInt - 11, math.MaxInt - 1, math.MaxInt}
}

// noNodes are nodes that a cluster of n has not.
func noNodes(n int) []int {
	return []int{math.MinInt, math.MinInt + 1, -1 << 32, -n, -2, -1, n, n + 1, api.MaxNodes, api.MaxNodes + 1, 64, 1 << 32, 1<<32 + n - 1, math.MaxInt - 1, math.MaxInt}
}

// wantGone fails unless just these nodes of a cluster of n are gone: There tells it of each, and Gone of all.
func wantGone(t *testing.T, w *watch.Watch, n, now int, want ...int) {
	t.Helper()
	if got := w.Gone(now); !slices.Equal(got, want) {
		t.Errorf("Gone(%d): %v; not %v", now, got, want)
	}
	for node := range n {
		if w.There(now, node) == slices.Contains(want, node) {
			t.Errorf("There(%d, %d): %t", now, node, !slices.Contains(want, node))
		}
	}
	for _, node := range noNodes(n) {
		if w.There(now, node) {
			t.Errorf("There(%d, %d), of none", now, node)
		}
	}
}

// wantHeard fails unless the node self is always there, and the others are until they were not heard for 12 ticks.
func wantHeard(t *testing.T, w *watch.Watch, self int, heard ...int) {
	t.Helper()
	moments := append(times(), noTimes()...)
	for _, at := range heard {
		for ticks := -15; ticks <= 15; ticks++ {
			if ticks <= 0 || at <= math.MaxInt-ticks {
				moments = append(moments, at+ticks)
			}
		}
	}
	for _, now := range moments {
		var gone []int
		for node, at := range heard {
			if node != self && now-12 >= at && now > 0 {
				gone = append(gone, node)
			}
		}
		wantGone(t, w, len(heard), now, gone...)
	}
}

// alike answers a list of so many of one number.
func alike(size, x int) []int { return slices.Repeat([]int{x}, size) }

// others are the nodes of a cluster of n, but self.
func others(n, self int) []int {
	var l []int
	for node := range n {
		if node != self {
			l = append(l, node)
		}
	}
	return l
}

// 17.1: New

func TestNewHeardAllThen(t *testing.T) {
	for n := 1; n <= api.MaxNodes; n++ {
		for self := range n {
			for _, now := range times() {
				w := begun(t, n, self, now)
				wantHeard(t, w, self, alike(n, now)...)
				wantGone(t, w, n, now+11)
				wantGone(t, w, n, now+12, others(n, self)...)
			}
		}
	}
}

func TestNewOfWhatMayNotBe(t *testing.T) {
	sizes := []int{math.MinInt, -1 << 32, -api.MaxNodes, -2, -1, 0, api.MaxNodes + 1, api.MaxNodes + 2, 1 << 32, 1<<32 + 1, math.MaxInt - 1, math.MaxInt}
	wantNone := func(n, self, now int) {
		t.Helper()
		if w, e := watch.New(n, self, now); w != nil || e != api.ErrArg {
			t.Errorf("New(%d, %d, %d): %v, %d", n, self, now, w, e)
		}
	}
	for _, n := range sizes {
		for _, self := range append(noNodes(1), 0, 1, 4) {
			for _, now := range append(times(), noTimes()...) {
				wantNone(n, self, now)
			}
		}
	}
	for n := 1; n <= api.MaxNodes; n++ {
		for _, self := range noNodes(n) {
			for _, now := range append(times(), noTimes()...) {
				wantNone(n, self, now)
			}
		}
		for self := range n {
			for _, now := range noTimes() {
				wantNone(n, self, now)
			}
		}
	}
}

func TestNewOnesAreApart(t *testing.T) {
	one, two := begun(t, 2, 0, 10), begun(t, 3, 1, 20)
	one.Heard(30, 1)
	wantHeard(t, two, 1, 20, 20, 20)
	two.Heard(40, 2)
	two.Heard(41, 0)
	wantHeard(t, one, 0, 10, 30)
	wantHeard(t, two, 1, 41, 20, 40)
}

// 17.1: Heard

func TestHeard(t *testing.T) {
	w := begun(t, 3, 1, 5)
	for _, x := range []struct {
		now, node int
		heard     []int
	}{
		{5, 0, []int{5, 5, 5}}, // when it began
		{6, 0, []int{6, 5, 5}}, // one tick later
		{6, 0, []int{6, 5, 5}}, // the same again
		{5, 0, []int{6, 5, 5}}, // an earlier one, behind it: as it was
		{0, 2, []int{6, 5, 5}}, // ahead of where it began
		{17, 2, []int{6, 5, 17}},
		{12, 0, []int{12, 5, 17}},   // ahead of what was heard of another one
		{400, 2, []int{12, 5, 400}}, // long behind when it was gone
		{399, 2, []int{12, 5, 400}},
		{401, 2, []int{12, 5, 401}},
		{401, 1, []int{12, 401, 401}}, // of self: it is there anyhow
	} {
		w.Heard(x.now, x.node)
		wantHeard(t, w, 1, x.heard...)
	}
}

// New(2, 0, 5): Gone(16) nobody, Gone(17): 1.
func TestExampleOfTheDocument(t *testing.T) {
	w := begun(t, 2, 0, 5)
	wantGone(t, w, 2, 16)
	wantGone(t, w, 2, 17, 1)
	w.Heard(17, 1)
	wantGone(t, w, 2, 17)
	wantGone(t, w, 2, 28)
	wantGone(t, w, 2, 29, 1)
}

func TestHeardOfEachNode(t *testing.T) {
	for n := 1; n <= api.MaxNodes; n++ {
		for self := range n {
			w := begun(t, n, self, 0)
			heard := alike(n, 0)
			for node := n - 1; node >= 0; node-- {
				heard[node] = 100 - 5*node
				w.Heard(heard[node], node)
				wantHeard(t, w, self, heard...)
			}
		}
	}
}

// It is later, or nothing: at any time, also one at which none may begin.
func TestHeardAtEachTime(t *testing.T) {
	for _, begin := range times() {
		for _, now := range slices.Concat(times(), noTimes(), []int{begin - 1, begin + 1}) {
			w := begun(t, 3, 0, begin)
			w.Heard(now, 2)
			wantHeard(t, w, 0, begin, begin, max(begin, now))
			w.Heard(begin+7, 1)
			w.Heard(begin+6, 2)
			wantHeard(t, w, 0, begin, begin+7, max(begin+6, now))
		}
	}
}

func TestHeardOfNone(t *testing.T) {
	for n := 1; n <= api.MaxNodes; n++ {
		w := begun(t, n, 0, 10)
		for _, node := range noNodes(n) {
			for _, now := range append(times(), noTimes()...) {
				w.Heard(now, node)
			}
			wantHeard(t, w, 0, alike(n, 10)...)
		}
	}
}

// Who was gone is there as soon as it is heard.
func TestWhoIsHeardIsThereAgain(t *testing.T) {
	w := begun(t, 3, 2, 0)
	for round := range 20 {
		now := 100 * (round + 1)
		wantGone(t, w, 3, now, 0, 1)
		w.Heard(now, round%2)
		wantGone(t, w, 3, now, 1-round%2)
		wantGone(t, w, 3, now+11, 1-round%2)
		wantGone(t, w, 3, now+12, 0, 1)
	}
}

// 17.1: There, Gone

// Each set of nodes that was not heard, of clusters of each size: they are gone, rising, but self.
func TestGoneOfEachSet(t *testing.T) {
	for n := 1; n <= api.MaxNodes; n++ {
		for self := range n {
			for bits := range 1 << n {
				w := begun(t, n, self, 0)
				var gone []int
				for node := n - 1; node >= 0; node-- {
					if bits>>node%2 == 0 {
						w.Heard(1, node)
					} else if node != self {
						gone = append([]int{node}, gone...)
					}
				}
				wantGone(t, w, n, 11)
				wantGone(t, w, n, 12, gone...)
				wantGone(t, w, n, 13, others(n, self)...)
			}
		}
	}
}

// It is told of any time: whoever was heard later is there, however far ahead of it that is.
func TestThereAtAnyTime(t *testing.T) {
	w := begun(t, 3, 0, 0)
	w.Heard(math.MaxInt, 1)
	for _, now := range append(times(), noTimes()...) {
		switch {
		case now < 12:
			wantGone(t, w, 3, now)
		default:
			wantGone(t, w, 3, now, 2)
		}
	}
	w.Heard(math.MaxInt-12, 2)
	wantGone(t, w, 3, math.MinInt)
	wantGone(t, w, 3, math.MaxInt-1)
	wantGone(t, w, 3, math.MaxInt, 2)
}

func TestToldTwiceIsTheSame(t *testing.T) {
	w := begun(t, 4, 1, 10)
	w.Heard(20, 3)
	for range 3 {
		for _, now := range []int{40, 31, 22, 21, 0, 31} {
			var gone []int
			if now > 21 {
				gone = []int{0, 2}
			}
			if now > 31 {
				gone = []int{0, 2, 3}
			}
			wantGone(t, w, 4, now, gone...)
		}
	}
}

// What is answered is the caller's own.
func TestGoneIsNewEachTime(t *testing.T) {
	w := begun(t, 4, 1, 10)
	one, two := w.Gone(22), w.Gone(22)
	for k := range one {
		one[k] = 77
	}
	_ = append(one[:1], 78, 79, 80)
	if !slices.Equal(two, []int{0, 2, 3}) {
		t.Errorf("%v", two)
	}
	wantGone(t, w, 4, 22, 0, 2, 3)
}

// Of nil, and of ones that New did not make.

func TestNobody(t *testing.T) {
	var none *watch.Watch
	for _, w := range []*watch.Watch{none, new(watch.Watch)} {
		for _, now := range append(times(), noTimes()...) {
			for _, node := range append(noNodes(1), 0, 1, 2, 3, 4) {
				w.Heard(now, node)
				if w.There(now, node) {
					t.Errorf("There(%d, %d)", now, node)
				}
			}
			if l := w.Gone(now); len(l) > 0 {
				t.Errorf("Gone(%d): %v", now, l)
			}
		}
	}
}

// What is handed in.

// No call panics, whatever it is given, and each says the same again.
func TestAnythingMayBeHandedIn(t *testing.T) {
	numbers := []int{math.MinInt, math.MinInt + 11, -13, -1, 0, 1, 2, 4, 5, 12, api.MaxTick, 1 << 62, math.MaxInt - 12, math.MaxInt}
	told := func() string {
		var s strings.Builder
		for _, n := range numbers {
			for _, self := range numbers {
				for _, a := range numbers {
					w, e := watch.New(n, self, a)
					fmt.Fprint(&s, e)
					for _, b := range numbers {
						w.Heard(b, a)
						fmt.Fprint(&s, w.There(a, b), w.There(b, a), w.Gone(b))
						w.Heard(a, b)
						fmt.Fprint(&s, w.Gone(a))
					}
				}
			}
		}
		return s.String()
	}
	if told() != told() {
		t.Error("the same calls answer otherwise")
	}
}
