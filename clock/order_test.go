package clock_test

import (
	"fmt"
	"slices"
	"testing"

	"casebook/api"
	"casebook/clock"
)

// numbers answers a call that answers numbers from 0 to below n, the same ones in each run.
func numbers() func(n int) int {
	state := uint64(1)
	return func(n int) int {
		state = state*6364136223846793005 + 1442695040888963407
		return int((state >> 33) % uint64(n))
	}
}

// howOften answers how often a number is in a list.
func howOften(l []int, x int) int {
	n := 0
	for _, y := range l {
		if x == y {
			n++
		}
	}
	return n
}

// allIn answers if all numbers from 0 to below n are in a list.
func allIn(l []int, n int) bool {
	for k := range n {
		if !slices.Contains(l, k) {
			return false
		}
	}
	return true
}

// model is clocks told otherwise: all ticks in their order, and where among them the last Round was.
type model struct {
	n, begin int
	ticks    []int
}

func (m *model) tick(k int) bool {
	if k < 0 || k >= m.n || howOften(m.ticks[m.begin:], k) == 2 {
		return false
	}
	m.ticks = append(m.ticks, k)
	return true
}

func (m *model) round() bool {
	if !allIn(m.ticks[m.begin:], m.n) {
		return false
	}
	m.begin = len(m.ticks)
	return true
}

func (m *model) shown() []int {
	var l []int
	for k := range m.n {
		l = append(l, howOften(m.ticks, k))
	}
	return l
}

// doStep does the same to clocks and to their model: a tick of a number below n, a Round of n, a tick of no clock of one above.
func doStep(t *testing.T, what string, c *clock.Clocks, m *model, s int) {
	t.Helper()
	if s == m.n {
		wantYes(t, what+": Round", c.Round(), m.round())
		return
	}
	wantTick(t, what, c, s, m.tick(s))
}

// 10.1, behind each script of few steps.
func TestClocksAreAsTheirModelBehindEachShortScript(t *testing.T) {
	for n, steps := range map[int]int{1: 10, 2: 8, 3: 7, 4: 6} {
		each(steps, n+2, func(script []int) {
			c, m := made(t, n), &model{n: n}
			what := fmt.Sprintf("%d, script %v", n, script)
			for _, s := range script {
				doStep(t, what, c, m, s)
			}
			wantShown(t, what, c, m.shown()...)
			if t.Failed() {
				t.FailNow()
			}
		})
	}
}

// 10.1, behind each step of long scripts.
func TestClocksAreAsTheirModel(t *testing.T) {
	next := numbers()
	for script := range 90 {
		n := script%most + 1
		c, m := made(t, n), &model{n: n}
		rounds := 0
		for i := range 600 {
			s := next(n + 2)
			begin := m.begin
			doStep(t, fmt.Sprintf("script %d, step %d", script, i), c, m, s)
			wantShown(t, fmt.Sprintf("script %d, step %d", script, i), c, m.shown()...)
			if m.begin > begin {
				rounds++
			}
			if t.Failed() {
				t.FailNow()
			}
		}
		if rounds < 3 {
			t.Errorf("script %d: only %d Rounds", script, rounds)
		}
	}
}

// fair is Fair told otherwise: of clocks that there are.
func fair(ticks []int, n int) bool {
	begin := 0
	for i, k := range ticks {
		since := ticks[begin:i]
		if k < 0 || k >= n || howOften(since, k) == 2 && !allIn(since, n) {
			return false
		}
		if howOften(since, k) == 2 {
			begin = i
		}
	}
	return true
}

// 10.2, of each few ticks: one of a clock that there is not is among them.
func TestFairIsAsItsModelOfEachFewTicks(t *testing.T) {
	for n, longest := range map[int]int{1: 8, 2: 9, 3: 8, 4: 7} {
		for size := range longest + 1 {
			each(size, n+1, func(ticks []int) {
				wantFair(t, "few", ticks, n, fair(ticks, n))
				if t.Failed() {
					t.FailNow()
				}
			})
		}
	}
}

// fairTicks answers so many ticks that are fair: clocks are drawn with as many lots as they have.
func fairTicks(t *testing.T, next func(n int) int, n, size int, lots []int) []int {
	t.Helper()
	c := made(t, n)
	var l []int
	for range 1000 * size {
		if len(l) == size {
			return l
		}
		k := drawn(next, lots)
		if c.Tick(k) || c.Round() && c.Tick(k) {
			l = append(l, k)
		}
	}
	t.Fatalf("of all clocks that were drawn just %d ticked: %v", len(l), l)
	return nil
}

// drawn answers a place by lots: each has as many as its number.
func drawn(next func(n int) int, lots []int) int {
	all := 0
	for _, n := range lots {
		all += n
	}
	x := next(all)
	for k, n := range lots {
		if x -= n; x < 0 {
			return k
		}
	}
	return 0
}

// manyLots answers lots of so many clocks: in turn all alike, some that hurry, some that lag.
func manyLots(next func(n int) int, n, turn int) []int {
	lots := alike(n, 1)
	for k := range lots {
		switch {
		case turn%3 == 1 && next(2) == 0:
			lots[k] = 30
		case turn%3 == 2:
			lots[k] = 1 + next(20)
		}
	}
	return lots
}

// 10.2, of many ticks: they are as they were told by the calls, and each more is fair or not as it would be there.
func TestFairIsAsItsModelOfManyTicks(t *testing.T) {
	next := numbers()
	no := 0
	for script := range 90 {
		n := script%most + 1
		ticks := fairTicks(t, next, n, 300, manyLots(next, n, script/most))
		wantFair(t, "as the calls told", ticks, n, true)
		for k := range n {
			more := append(slices.Clone(ticks), k, k, k)
			for size := len(ticks); size <= len(more); size++ {
				want := fair(more[:size], n)
				wantFair(t, "and more", more[:size], n, want)
				if !want {
					no++
				}
			}
		}
		if t.Failed() {
			t.FailNow()
		}
	}
	if no < 300 {
		t.Errorf("only %d were not fair", no)
	}
}

// 10.3

// ahead answers by how much more than twice what b showed between any two moments a did, at most: shown has what all showed at each moment.
func ahead(shown [][]int, a, b int) int {
	more := 0
	for j, to := range shown {
		for _, from := range shown[:j] {
			more = max(more, to[a]-from[a]-2*(to[b]-from[b]))
		}
	}
	return more
}

// wantNear fails if between any two moments a clock showed more than twice what another one did, and 4 more. It answers how many more it was at most.
func wantNear(t *testing.T, what string, shown [][]int) int {
	t.Helper()
	farthest := 0
	for a := range shown[0] {
		for b := range shown[0] {
			more := ahead(shown, a, b)
			if more > 4 {
				t.Fatalf("%s: between two moments the clock %d showed more than twice what %d did, and %d more", what, a, b, more)
			}
			farthest = max(farthest, more)
		}
	}
	return farthest
}

// seen answers what clocks show.
func seen(c *clock.Clocks, n int) []int {
	var l []int
	for k := range n {
		l = append(l, c.At(k))
	}
	return l
}

// Whatever is called: all that is done is so near, and the 4 more are reached.
func TestClocksAreNearBehindEachShortScript(t *testing.T) {
	for n, steps := range map[int]int{2: 9, 3: 7} {
		farthest := 0
		each(steps, n+1, func(script []int) {
			c := made(t, n)
			shown := [][]int{seen(c, n)}
			for _, k := range script {
				if k == n {
					c.Round()
				} else {
					c.Tick(k)
				}
				shown = append(shown, seen(c, n))
			}
			farthest = max(farthest, wantNear(t, fmt.Sprint(script), shown))
		})
		if farthest != 4 {
			t.Errorf("%d clocks: no one showed more than twice what another one did, and 4 more, but %d", n, farthest)
		}
	}
}

// moments answers what clocks show ahead of some ticks and behind each of them.
func moments(ticks []int, n int) [][]int {
	now := alike(n, 0)
	shown := [][]int{slices.Clone(now)}
	for _, k := range ticks {
		now[k]++
		shown = append(shown, slices.Clone(now))
	}
	return shown
}

// Ticks that are fair are so near.
func TestFairTicksAreNear(t *testing.T) {
	for n, size := range map[int]int{2: 12, 3: 8} {
		farthest, many := 0, 0
		each(size, n, func(ticks []int) {
			if !clock.Fair(ticks, n) {
				return
			}
			many++
			farthest = max(farthest, wantNear(t, fmt.Sprint(ticks), moments(ticks, n)))
		})
		if farthest != 4 || many < 300 {
			t.Errorf("%d lists of ticks of %d clocks were fair: in none a clock showed more than twice what another one did, and 4 more, but %d", many, n, farthest)
		}
	}
}

func TestManyFairTicksAreNear(t *testing.T) {
	next := numbers()
	for script := range 27 {
		n := script%most + 1
		ticks := fairTicks(t, next, n, 300, manyLots(next, n, script/most))
		wantYes(t, "fair", clock.Fair(ticks, n), true)
		wantNear(t, fmt.Sprint("script ", script), moments(ticks, n))
	}
}

// apart answers ticks by which the clock 0 gets as far ahead of the clock 1 as it may: that one ticks as seldom, at first ahead of it and at last not.
func apart(rounds int) []int {
	ticks := []int{1, 0, 0}
	for range rounds {
		ticks = append(ticks, 0, 0, 1)
	}
	return append(ticks, 0, 0)
}

// The 4 more are had once, however long it takes.
func TestTheFourMoreAreHadOnce(t *testing.T) {
	for rounds := range 40 {
		ticks := apart(rounds)
		wantFair(t, "apart", ticks, 2, true)
		wantFair(t, "farther", append(ticks, 0), 2, false)
		if more := ahead(moments(ticks, 2), 0, 1); more != 4 {
			t.Errorf("%v: the clock 0 showed more than twice what 1 did, and %d more; not 4", ticks, more)
		}
	}
}

// leastLease answers the least that b showed more between two moments between which a showed a Grant more.
func leastLease(shown [][]int, a, b int) int {
	least := api.Grant
	for j, to := range shown {
		for _, from := range shown[:j] {
			if to[a]-from[a] == api.Grant {
				least = min(least, to[b]-from[b])
			}
		}
	}
	return least
}

// T1, as far as clocks go: where a clock that is nearly alike showed a Grant more since it promised, each other one showed a Lease more: no lease is valid that was asked for ahead of that.
func TestALeaseIsOverWhereItsGrantIs(t *testing.T) {
	if least := leastLease(moments(apart(23), 2), 0, 1); least != 23 {
		t.Errorf("the slow clock showed %d more; not 23", least)
	}
	next := numbers()
	for script := range 40 {
		n := script%(most-1) + 2
		shown := moments(fairTicks(t, next, n, 70*n, manyLots(next, n, script/most)), n)
		for a := range n {
			for b := range n {
				if least := leastLease(shown, a, b); least < 23 || least < api.Lease {
					t.Fatalf("script %d: the clock %d showed %d more while %d showed a Grant more", script, b, least, a)
				}
			}
		}
	}
}
