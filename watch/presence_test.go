package watch_test

import (
	"slices"
	"testing"

	"casebook/api"
	"casebook/clock"
	"casebook/watch"
)

// 17.2: who tells something in each Fail ticks is there

// Whoever tells, with whatever ticks between: at each moment it is there just if it told in the last twelve ticks.
func TestWhoToldInTheLastTicksIsThere(t *testing.T) {
	for first := 1; first <= 14; first++ {
		for second := 1; second <= 14; second++ {
			for third := 1; third <= 14; third++ {
				wantThereAsTold(t, []int{0, first, first + second, first + second + third})
			}
		}
	}
}

// wantThereAsTold goes over all moments, while one is heard at those that are told.
func wantThereAsTold(t *testing.T, told []int) {
	t.Helper()
	w := begun(t, 2, 1, 0)
	last := 0
	for now := range told[len(told)-1] + 20 {
		if slices.Contains(told, now) {
			w.Heard(now, 0)
			last = now
		}
		if want := now-last <= 11; w.There(now, 0) != want {
			t.Errorf("heard at %v: There(%d): %t", told, now, !want)
		}
		if now-last <= 11 != (len(w.Gone(now)) == 0) {
			t.Errorf("heard at %v: Gone(%d): %v", told, now, w.Gone(now))
		}
	}
}

// cluster is nodes that tell all others that they are there, whenever their own clocks have shown so many ticks more.
type cluster struct {
	n, every int
	anyTicks bool // clocks are not nearly alike
	clocks   *clock.Clocks
	now      []int
	nodes    []*watch.Watch
	silent   int // a node that tells nothing, if it is one
}

func clusterOf(t *testing.T, n, every int) *cluster {
	t.Helper()
	clocks, e := clock.New(n)
	if e != api.OK {
		t.Fatalf("New(%d): %d", n, e)
	}
	c := &cluster{n: n, every: every, clocks: clocks, now: make([]int, n), silent: -1}
	for node := range n {
		c.nodes = append(c.nodes, begun(t, n, node, 0))
	}
	return c
}

// tick has a clock tick, if it may, and its node tell that it is there, if that is due: all hear it at once.
func (c *cluster) tick(node int) bool {
	if !c.anyTicks && !c.clocks.Tick(node) && !(c.clocks.Round() && c.clocks.Tick(node)) {
		return false
	}
	c.now[node]++
	if c.now[node]%c.every == 0 && node != c.silent {
		for other, w := range c.nodes {
			w.Heard(c.now[other], node)
		}
	}
	return true
}

// suspected answers how many nodes are gone for others now.
func (c *cluster) suspected() int {
	many := 0
	for node, w := range c.nodes {
		many += len(w.Gone(c.now[node]))
	}
	return many
}

// scripts tells how often a node was suspected in many scripts of ticks, of two to five nodes.
func scripts(t *testing.T, every int, anyTicks bool) int {
	t.Helper()
	next := numbers()
	many := 0
	for script := range 40 {
		c := clusterOf(t, 2+script%4, every)
		c.anyTicks = anyTicks
		slow := next(c.n)
		for range 2000 {
			node := next(c.n)
			if node == slow && next(3) > 0 { // one clock lags
				node = next(c.n)
			}
			c.tick(node)
			many += c.suspected()
		}
	}
	return many
}

// While clocks are nearly alike nobody is suspected who tells in each Beat, nor who does so in four ticks of its own clock, as others' show ten more by then at most.
func TestWhoTellsOftenIsNotSuspected(t *testing.T) {
	for every := api.Beat; every <= 4; every++ {
		if many := scripts(t, every, false); many > 0 {
			t.Errorf("each %d ticks: suspected %d times", every, many)
		}
	}
}

// What that leans on, without which it is seen to be broken by the same scripts.
func TestPresenceLeansOnClocksAndOnBeats(t *testing.T) {
	if many := scripts(t, 4, true); many == 0 {
		t.Error("clocks that are not nearly alike: this finds nothing")
	}
	if many := scripts(t, 12, false); many == 0 {
		t.Error("who tells each 12 ticks: this finds nothing")
	}
}

// ticks has a clock tick so often.
func (c *cluster) ticks(t *testing.T, node, often int) {
	t.Helper()
	for range often {
		if !c.tick(node) {
			t.Fatalf("the clock %d does not tick at %v", node, c.now)
		}
	}
}

// Where clocks go as far apart as they may, who tells in each five ticks of its own is suspected, as the other's shows twelve more by then; who does so in each four is not.
func TestPresenceByClocksThatGoApart(t *testing.T) {
	for every := 1; every <= 6; every++ {
		c := clusterOf(t, 2, every)
		for range every - 1 {
			c.ticks(t, 0, 1)
			c.ticks(t, 1, 1)
			c.clocks.Round()
		}
		c.ticks(t, 0, 1)
		told := c.now[1]
		c.ticks(t, 1, 2)
		for range every - 1 {
			c.ticks(t, 1, 2)
			c.ticks(t, 0, 1)
		}
		c.ticks(t, 1, 2)
		if c.now[1] != told+2*every+2 {
			t.Fatalf("heard at %d, clocks show %v", told, c.now)
		}
		if c.nodes[1].There(c.now[1], 0) != (every <= 4) {
			t.Errorf("each %d ticks: heard at %d, at %d: There: %t", every, told, c.now[1], every > 4)
		}
	}
}

// Who tells nothing any more is suspected by all others, and by nobody sooner; the others are not.
func TestWhoTellsNothingIsSuspected(t *testing.T) {
	for n := 2; n <= api.MaxNodes; n++ {
		c := clusterOf(t, n, api.Beat)
		for now := 1; now <= 60; now++ {
			if now == 21 {
				c.silent = 1
			}
			for node := range n {
				c.ticks(t, node, 1)
			}
			for node, w := range c.nodes {
				last := 20
				if node > 1 { // their clocks ticked behind that of the node 1: they showed one less when it told
					last = 19
				}
				var want []int
				if now >= last+12 && node != 1 {
					want = []int{1}
				}
				if got := w.Gone(now); !slices.Equal(got, want) {
					t.Errorf("%d nodes: at %d, of the node %d: Gone: %v; not %v", n, now, node, got, want)
				}
			}
		}
	}
}
