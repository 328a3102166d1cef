package clock_test

import (
	"fmt"
	"math"
	"slices"
	"testing"

	"casebook/api"
	"casebook/clock"
)

// most is how many clocks there may be.
const most = api.MaxNodes + api.MaxClients

// noClocks are numbers of clocks that so many have not.
func noClocks(n int) []int {
	return []int{-1, -2, -n, -n - 1, n, n + 1, most + 1, 2 * most, math.MinInt, math.MinInt + 1, -1 << 32, -1<<32 + 1, -1 << 31, 1<<31 - 1, 1 << 31, 1 << 32, 1<<32 + 1, math.MaxInt - 1, math.MaxInt}
}

// noSizes are how many clocks there can't be.
func noSizes() []int {
	return []int{math.MinInt, math.MinInt + 1, -1 << 32, -1<<32 + 1, -1 << 31, -most, -2, -1, 0, most + 1, most + 2, 2 * most, 1 << 31, 1 << 32, 1<<32 + 1, 1<<32 + most, math.MaxInt - 1, math.MaxInt}
}

// made answers so many new clocks.
func made(t *testing.T, n int) *clock.Clocks {
	t.Helper()
	c, e := clock.New(n)
	if c == nil || e != api.OK {
		t.Fatalf("New(%d): %v, %d", n, c, e)
	}
	return c
}

// wantYes fails unless an answer is this one.
func wantYes(t *testing.T, what string, got, want bool) {
	t.Helper()
	if got != want {
		t.Errorf("%s: %t", what, got)
	}
}

// wantTick fails unless a Tick tells this, and its clock shows one more if it may be, and else the same.
func wantTick(t *testing.T, what string, c *clock.Clocks, k int, want bool) {
	t.Helper()
	shown := c.At(k)
	wantYes(t, fmt.Sprintf("%s: Tick(%d)", what, k), c.Tick(k), want)
	if want {
		shown++
	}
	if c.At(k) != shown {
		t.Errorf("%s: behind Tick(%d) it shows %d; not %d", what, k, c.At(k), shown)
	}
}

// wantShown fails unless the clocks are just so many and show this.
func wantShown(t *testing.T, what string, c *clock.Clocks, shown ...int) {
	t.Helper()
	for k, want := range shown {
		if got := c.At(k); got != want {
			t.Errorf("%s: At(%d): %d; not %d", what, k, got, want)
		}
	}
	for _, k := range noClocks(len(shown)) {
		if got := c.At(k); got != 0 {
			t.Errorf("%s: At(%d), of none: %d", what, k, got)
		}
	}
}

// wantLeft fails unless each clock may tick just so often until the next Round. The clocks have ticked so then.
func wantLeft(t *testing.T, what string, c *clock.Clocks, left ...int) {
	t.Helper()
	for k, n := range left {
		for range n {
			wantTick(t, what, c, k, true)
		}
	}
	for k := range left {
		wantTick(t, what+", no more", c, k, false)
	}
}

// doTicks ticks each clock so often.
func doTicks(t *testing.T, what string, c *clock.Clocks, ticks ...int) {
	t.Helper()
	for k, n := range ticks {
		for range n {
			wantTick(t, what, c, k, true)
		}
	}
}

// each goes over all lists of so many numbers from 0 to below one.
func each(size, below int, do func(l []int)) {
	l := make([]int, size)
	for {
		do(l)
		i := 0
		for i < size && l[i] == below-1 {
			l[i] = 0
			i++
		}
		if i == size {
			return
		}
		l[i]++
	}
}

// alike answers a list of so many of one number.
func alike(size, x int) []int { return slices.Repeat([]int{x}, size) }

// 10.1: New

func TestNewShowsZero(t *testing.T) {
	for n := 1; n <= most; n++ {
		what := fmt.Sprint(n, " new ones")
		wantShown(t, what, made(t, n), alike(n, 0)...)
		wantLeft(t, what, made(t, n), alike(n, 2)...)
		wantYes(t, what+": Round", made(t, n).Round(), false)
	}
}

func TestNewOfTooFewOrTooMany(t *testing.T) {
	for _, n := range noSizes() {
		if c, e := clock.New(n); c != nil || e != api.ErrArg {
			t.Errorf("New(%d): %v, %d", n, c, e)
		}
	}
}

func TestClocksOfTwoNewsAreApart(t *testing.T) {
	one, two := made(t, 2), made(t, 3)
	doTicks(t, "one", one, 2, 1)
	wantShown(t, "two, behind ticks of one", two, 0, 0, 0)
	wantYes(t, "Round of two", two.Round(), false)
	wantYes(t, "Round of one", one.Round(), true)
	doTicks(t, "two", two, 1, 2, 1)
	wantShown(t, "one", one, 2, 1)
	wantLeft(t, "two, behind a Round of one", two, 1, 0, 1)
	wantYes(t, "Round of one, behind ticks of two", one.Round(), false)
	wantLeft(t, "one", one, 2, 2)
}

// 10.1: Tick

func TestTickTwice(t *testing.T) {
	for n := 1; n <= most; n++ {
		for k := range n {
			c := made(t, n)
			what := fmt.Sprintf("%d, clock %d", n, k)
			shown := alike(n, 0)
			for _, want := range []bool{true, true, false, false, false} {
				wantTick(t, what, c, k, want)
				if want {
					shown[k]++
				}
				wantShown(t, what, c, shown...)
			}
			left := alike(n, 2)
			left[k] = 0
			wantLeft(t, what, c, left...)
		}
	}
}

func TestTickOfNone(t *testing.T) {
	for n := 1; n <= most; n++ {
		c := made(t, n)
		what := fmt.Sprint(n)
		for _, k := range noClocks(n) {
			wantTick(t, what, c, k, false)
			wantShown(t, fmt.Sprintf("%d, behind Tick(%d)", n, k), c, alike(n, 0)...)
			wantYes(t, what+": Round", c.Round(), false)
		}
		wantLeft(t, what, c, alike(n, 2)...)
		for _, k := range noClocks(n) {
			wantTick(t, what+", all ticked", c, k, false)
		}
		wantShown(t, what+", all ticked", c, alike(n, 2)...)
		wantYes(t, what+", all ticked: Round", c.Round(), true)
		for _, k := range noClocks(n) {
			wantTick(t, what+", behind a Round", c, k, false)
		}
		wantShown(t, what+", behind a Round", c, alike(n, 2)...)
	}
}

// A Tick that may not be is none: it is not counted for the next Round.
func TestTickThatMayNotBeIsNone(t *testing.T) {
	c := made(t, 2)
	doTicks(t, "at first", c, 2, 1)
	for range 5 {
		wantTick(t, "a third one", c, 0, false)
		wantTick(t, "of none", c, 2, false)
	}
	wantYes(t, "Round", c.Round(), true)
	wantYes(t, "Round again", c.Round(), false)
	wantLeft(t, "behind it", c, 2, 2)
	wantShown(t, "at last", c, 4, 3)
}

// 10.1: Round

// Whatever ticked, once, twice or not: behind any Rounds ahead of it.
func TestRoundOfAnyTicks(t *testing.T) {
	for n := 1; n <= most; n++ {
		for name, ahead := range map[string][]int{
			"at first":                   nil,
			"behind a Round, one each":   alike(n, 1),
			"behind a Round, two each":   alike(n, 2),
			"behind a Round, one or two": {1, 2, 1, 1, 2, 2, 1, 2, 1},
		} {
			each(n, 3, func(ticks []int) {
				what := fmt.Sprintf("%s, %v", name, ticks)
				wantRound(t, what, ahead[:min(n, len(ahead))], ticks)
			})
			if t.Failed() {
				t.FailNow()
			}
		}
	}
}

// wantRound fails unless a Round may be if each of these clocks ticked, and if it may be all may tick twice again; else each as often as it might ahead of it.
func wantRound(t *testing.T, what string, ahead, ticks []int) {
	t.Helper()
	c := made(t, len(ticks))
	if len(ahead) > 0 {
		doTicks(t, what, c, ahead...)
		wantYes(t, what+": the Round ahead", c.Round(), true)
	}
	doTicks(t, what, c, ticks...)
	may := !slices.Contains(ticks, 0)
	shown, left := slices.Clone(ticks), alike(len(ticks), 2)
	for k := range ticks {
		if len(ahead) > 0 {
			shown[k] += ahead[k]
		}
		if !may {
			left[k] -= ticks[k]
		}
	}
	wantYes(t, what+": Round", c.Round(), may)
	wantYes(t, what+": Round again", c.Round(), false)
	for k := range shown {
		if c.At(k) != shown[k] {
			t.Errorf("%s: behind the Round %d shows %d; not %d", what, k, c.At(k), shown[k])
		}
	}
	wantLeft(t, what, c, left...)
}

// A Round that may not be changes nothing: what ticked ahead of it is counted.
func TestRoundThatMayNotBeIsNone(t *testing.T) {
	c := made(t, 3)
	for k := range 3 {
		wantYes(t, fmt.Sprintf("Round ahead of Tick(%d)", k), c.Round(), false)
		wantTick(t, "in turn", c, k, true)
	}
	wantYes(t, "Round of all", c.Round(), true)
	for k := 2; k >= 0; k-- {
		wantYes(t, fmt.Sprintf("Round ahead of another Tick(%d)", k), c.Round(), false)
		wantTick(t, "falling", c, k, true)
	}
	wantYes(t, "another Round of all", c.Round(), true)
	wantShown(t, "two Rounds", c, 2, 2, 2)
}

// What was not ticked in one is not had in the next one.
func TestNothingIsSavedForTheNextRound(t *testing.T) {
	c := made(t, 2)
	for round := range 10 {
		doTicks(t, "in turn", c, 1, 1)
		wantYes(t, "Round", c.Round(), true)
		wantShown(t, fmt.Sprint("round ", round), c, round+1, round+1)
	}
	wantLeft(t, "behind ten Rounds of one tick each", c, 2, 2)
}

// 10.1: At

func TestAtChangesNothing(t *testing.T) {
	c := made(t, 3)
	doTicks(t, "at first", c, 2, 0, 1)
	for range 5 {
		wantShown(t, "asked", c, 2, 0, 1)
	}
	wantYes(t, "Round", c.Round(), false)
	wantLeft(t, "asked", c, 0, 2, 1)
}

func TestManyTicks(t *testing.T) {
	const many = 1 << 18
	c := made(t, most)
	for range many {
		for k := range most {
			if !c.Tick(k) || k%2 == 0 && !c.Tick(k) {
				t.Fatalf("a tick of %d, of ones that show %d and %d", k, c.At(0), c.At(1))
			}
		}
		if !c.Round() {
			t.Fatalf("a Round of ones that show %d and %d", c.At(0), c.At(1))
		}
	}
	var shown []int
	for k := range most {
		shown = append(shown, many+many*((k+1)%2))
	}
	wantShown(t, "many", c, shown...)
}

// 10.1: of nil

func TestOfNil(t *testing.T) {
	var c *clock.Clocks
	for range 2 {
		wantYes(t, "Round", c.Round(), false)
		for _, k := range append(noClocks(0), 0, 1, 2, most-1) {
			wantTick(t, "nil", c, k, false)
		}
		wantShown(t, "nil", c)
	}
}

// Clocks that New did not make are none.
func TestZeroClocks(t *testing.T) {
	var c clock.Clocks
	c.Round()
	for _, k := range append(noClocks(0), 0, 1, 2, most-1) {
		wantTick(t, "zero", &c, k, false)
	}
	wantShown(t, "zero", &c)
}

// 10.2

func wantFair(t *testing.T, what string, ticks []int, n int, want bool) {
	t.Helper()
	was := slices.Clone(ticks)
	for range 2 {
		if got := clock.Fair(ticks, n); got != want {
			t.Errorf("%s: Fair(%v, %d): %t", what, ticks, n, got)
		}
	}
	if !slices.Equal(ticks, was) {
		t.Errorf("%s: Fair(%v, %d) leaves %v", what, was, n, ticks)
	}
}

func TestExamplesOfTheDocument(t *testing.T) {
	wantFair(t, "0, 0 may be", []int{0, 0}, 2, true)
	wantFair(t, "a third 0 not, ahead of 1", []int{0, 0, 0}, 2, false)
	wantFair(t, "ahead of 1", []int{0, 0, 0, 1}, 2, false)
	wantFair(t, "behind 1", []int{0, 0, 1, 0}, 2, true)
}

func TestFairOfFewTicks(t *testing.T) {
	for _, c := range []struct {
		n     int
		ticks []int
		want  bool
	}{
		{1, []int{0}, true}, {1, alike(100, 0), true}, {1, []int{1}, false},
		{2, []int{0}, true}, {2, []int{1}, true}, {2, []int{1, 1}, true}, {2, []int{1, 1, 1}, false},
		{2, []int{0, 1, 1, 0}, true}, {2, []int{0, 0, 1, 1, 1}, true}, {2, []int{0, 0, 1, 1, 1, 1}, true}, {2, []int{0, 0, 1, 1, 1, 1, 1}, false},
		{3, []int{0, 0, 1, 0}, false}, {3, []int{0, 0, 1, 2, 0}, true}, {3, []int{0, 0, 1, 2, 0, 0, 0}, false}, {3, []int{0, 0, 2, 2, 1, 1, 0, 1, 2, 0}, true},
		{most, []int{0, 1, 2, 3, 4, 5, 6, 7, 8, 0, 1, 2, 3, 4, 5, 6, 7, 8, 8, 7, 6, 5, 4, 3, 2, 1, 0}, true},
		{most, []int{0, 0, 1, 2, 3, 4, 5, 6, 8, 0}, false}, {most, []int{0, 0, 1, 2, 3, 4, 5, 6, 7, 8, 0}, true},
	} {
		wantFair(t, "few", c.ticks, c.n, c.want)
	}
}

// A Round is not sooner than it must be: what ticked twice behind a sooner one would not tick again.
func TestFairHasARoundOnlyWhereATickWouldElseNotBe(t *testing.T) {
	wantFair(t, "as soon as all ticked, the last 0 could not be", []int{0, 1, 0, 0, 0}, 2, true)
	wantFair(t, "and a fourth one can't", []int{0, 1, 0, 0, 0, 0}, 2, false)
	wantFair(t, "the same of three", []int{0, 1, 2, 2, 2, 2}, 3, true)
}

// Nor is it later: it does not look ahead for places of Rounds by which all ticks could be (behind the second one here, and behind the fifth one).
func TestFairDoesNotLookAhead(t *testing.T) {
	wantFair(t, "0 1, 1 0 0, 0 0", []int{0, 1, 1, 0, 0, 0, 0}, 2, false)
	wantFair(t, "without the last one", []int{0, 1, 1, 0, 0, 0}, 2, true)
}

func TestFairOfNoTicks(t *testing.T) {
	for n := 1; n <= most; n++ {
		wantFair(t, "nil", nil, n, true)
		wantFair(t, "empty", []int{}, n, true)
	}
}

func TestFairOfNoSuchClocks(t *testing.T) {
	for _, n := range noSizes() {
		for _, ticks := range [][]int{nil, {}, {0}, {0, 1}, {-1}, {most}, {0, 0, 0}} {
			wantFair(t, "so many", ticks, n, false)
		}
	}
}

func TestFairOfATickOfNone(t *testing.T) {
	for n := 1; n <= most; n++ {
		var ticks []int
		for k := range n {
			ticks = append(ticks, k, k)
		}
		for _, k := range noClocks(n) {
			for place := range len(ticks) + 1 {
				wantFair(t, "one of none", slices.Insert(slices.Clone(ticks), place, k), n, false)
			}
		}
	}
}

// What is behind a tick that may not be makes nothing good.
func TestFairEndsAtWhatMayNotBe(t *testing.T) {
	ticks := []int{0, 0, 0}
	for range 100 {
		ticks = append(ticks, 1, 0, 2)
		wantFair(t, "more", ticks, 3, false)
	}
}

func TestFairOfManyTicks(t *testing.T) {
	var ticks []int
	for i := range 1 << 20 {
		ticks = append(ticks, i%most)
	}
	wantYes(t, "each in turn", clock.Fair(ticks, most), true)
	at := len(ticks) - len(ticks)%most // behind as many of each
	for range 3 {
		ticks = slices.Insert(ticks, at, 4)
	}
	wantYes(t, "three more of one, at last", clock.Fair(ticks, most), false)
}
