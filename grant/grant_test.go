package grant_test

import (
	"fmt"
	"math"
	"slices"
	"strings"
	"testing"

	"casebook/api"
	"casebook/grant"
)

// of writes a chain shortly.
func of(epoch int, nodes ...int) api.Chain { return api.Chain{Epoch: epoch, Nodes: nodes} }

// begun answers new grants of what may be.
func begun(t *testing.T, n, now int) *grant.Grants {
	t.Helper()
	g, e := grant.New(n, now)
	if g == nil || e != api.OK {
		t.Fatalf("New(%d, %d): %v, %d", n, now, g, e)
	}
	return g
}

// all is a chain of all nodes of a cluster.
func all(n int) api.Chain {
	c := of(1)
	for node := range n {
		c.Nodes = append(c.Nodes, node)
	}
	return c
}

// without is what may follow a chain: it has not one of its nodes.
func without(c api.Chain, out int) api.Chain {
	next := of(c.Epoch + 1)
	for _, node := range c.Nodes {
		if node != out {
			next.Nodes = append(next.Nodes, node)
		}
	}
	return next
}

// times are moments of all kinds that may be.
func times() []int {
	return []int{0, 1, 2, 10, 49, 50, 51, 1000, 1 << 32, api.MaxTick - 51, api.MaxTick - 50, api.MaxTick - 49, api.MaxTick - 1, api.MaxTick}
}

// noTimes are moments that may not be.
func noTimes() []int {
	return []int{math.MinInt, math.MinInt + 1, -api.MaxTick, -1 << 32, -51, -50, -2, -1, api.MaxTick + 1, api.MaxTick + 2, 2 * api.MaxTick, math.MaxInt - 50, math.MaxInt - 1, math.MaxInt}
}

// noNodes are nodes that a cluster of n has not.
func noNodes(n int) []int {
	return []int{math.MinInt, math.MinInt + 1, -1 << 32, -n, -2, -1, n, n + 1, api.MaxNodes, api.MaxNodes + 1, 64, 1 << 32, 1<<32 + n - 1, math.MaxInt - 1, math.MaxInt}
}

// wantGive fails unless a promise is given, or not.
func wantGive(t *testing.T, g *grant.Grants, now, node int, want bool) {
	t.Helper()
	if g.Give(now, node) != want {
		t.Errorf("Give(%d, %d): %t", now, node, !want)
	}
}

// wantVeto fails unless there is a veto, or not.
func wantVeto(t *testing.T, g *grant.Grants, now int, from, to api.Chain, want bool) {
	t.Helper()
	if g.Veto(now, from, to) != want {
		t.Errorf("Veto(%d, %v, %v): %t", now, from, to, !want)
	}
}

// wantUntil fails unless just these nodes are promised until these times: Until tells it, and Veto of each one that is left out alone.
func wantUntil(t *testing.T, g *grant.Grants, until ...int) {
	t.Helper()
	n := len(until)
	for node, want := range until {
		if got := g.Until(node); got != want {
			t.Errorf("Until(%d): %d; not %d", node, got, want)
		}
		for _, now := range []int{want - 1000, want - 51, want - 50, want - 2, want - 1} {
			wantVeto(t, g, now, all(n), without(all(n), node), true)
		}
		for _, now := range []int{want, want + 1, want + 50, want + 1000} {
			wantVeto(t, g, now, all(n), without(all(n), node), false)
		}
	}
	for _, node := range noNodes(n) {
		if got := g.Until(node); got != 0 {
			t.Errorf("Until(%d), of none: %d", node, got)
		}
	}
}

// alike answers a list of so many of one number.
func alike(size, x int) []int { return slices.Repeat([]int{x}, size) }

// 15.1: New

func TestNewPromisesAllFromThenOn(t *testing.T) {
	for n := 1; n <= api.MaxNodes; n++ {
		for _, now := range times() {
			wantUntil(t, begun(t, n, now), alike(n, now+50)...)
		}
	}
}

func TestNewOfWhatMayNotBe(t *testing.T) {
	sizes := []int{math.MinInt, -1 << 32, -api.MaxNodes, -2, -1, 0, api.MaxNodes + 1, api.MaxNodes + 2, 1 << 32, 1<<32 + 1, math.MaxInt - 1, math.MaxInt}
	wantNone := func(n, now int) {
		t.Helper()
		if g, e := grant.New(n, now); g != nil || e != api.ErrArg {
			t.Errorf("New(%d, %d): %v, %d", n, now, g, e)
		}
	}
	for _, n := range sizes {
		for _, now := range append(times(), noTimes()...) {
			wantNone(n, now)
		}
	}
	for n := 1; n <= api.MaxNodes; n++ {
		for _, now := range noTimes() {
			wantNone(n, now)
		}
	}
}

func TestNewOnesAreApart(t *testing.T) {
	one, two := begun(t, 2, 10), begun(t, 3, 20)
	wantGive(t, one, 30, 1, true)
	wantUntil(t, two, 70, 70, 70)
	wantGive(t, two, 40, 0, true)
	wantUntil(t, one, 60, 80)
	wantUntil(t, two, 90, 70, 70)
}

// 15.1: Give, Until

func TestGive(t *testing.T) {
	g := begun(t, 3, 10)
	wantUntil(t, g, 60, 60, 60)
	for _, x := range []struct {
		now, node int
		until     []int
	}{
		{10, 0, []int{60, 60, 60}},   // when it began
		{11, 0, []int{61, 60, 60}},   // one tick later
		{11, 0, []int{61, 60, 60}},   // the same again
		{10, 0, []int{61, 60, 60}},   // an earlier one, behind it: as long as it was
		{200, 2, []int{61, 60, 250}}, // long behind the end of what was promised
		{12, 2, []int{61, 60, 250}},  // earlier again
		{30, 1, []int{61, 80, 250}},  // ahead of what was given to another one
		{199, 2, []int{61, 80, 250}},
		{201, 2, []int{61, 80, 251}},
	} {
		wantGive(t, g, x.now, x.node, true)
		wantUntil(t, g, x.until...)
	}
}

// A promise that was given at 10 vetoes till 59.
func TestExampleOfTheDocument(t *testing.T) {
	g := begun(t, 3, 0)
	wantGive(t, g, 10, 1, true)
	for now := range 100 {
		wantVeto(t, g, now, of(1, 0, 1, 2), of(2, 0, 2), now <= 59)
		wantVeto(t, g, now, of(1, 0, 1, 2), of(2, 0, 1), now < 50) // as if it had been promised at 0
		wantVeto(t, g, now, of(1, 0, 1, 2), of(2, 0), now <= 59)
		wantVeto(t, g, now, of(1, 0, 1, 2), of(2, 1), now < 50)
	}
}

func TestGiveToEachNode(t *testing.T) {
	for n := 1; n <= api.MaxNodes; n++ {
		g := begun(t, n, 0)
		until := alike(n, 50)
		for node := range n {
			wantGive(t, g, 100*(node+1), node, true)
			until[node] = 100*(node+1) + 50
			wantUntil(t, g, until...)
		}
	}
}

func TestGiveToNone(t *testing.T) {
	for n := 1; n <= api.MaxNodes; n++ {
		g := begun(t, n, 10)
		for _, node := range noNodes(n) {
			for _, now := range append(times(), noTimes()...) {
				wantGive(t, g, now, node, false)
			}
			wantUntil(t, g, alike(n, 60)...)
		}
	}
}

// From where it began to MaxTick, whatever was given between.
func TestGiveAtEachTime(t *testing.T) {
	for _, begin := range times() {
		for _, now := range slices.Concat(times(), noTimes(), []int{begin - 50, begin - 1, begin, begin + 1}) {
			g := begun(t, 2, begin)
			may := now >= begin && now <= api.MaxTick
			until := begin + 50
			wantGive(t, g, now, 1, may)
			if may {
				until = now + 50
			}
			wantUntil(t, g, begin+50, until)
			wantGive(t, g, api.MaxTick, 0, true)
			wantGive(t, g, now, 1, may) // what was given does not move where it began
			wantUntil(t, g, api.MaxTick+50, until)
		}
	}
}

// What is not given changes nothing, also behind what was.
func TestGiveThatMayNotBeIsNone(t *testing.T) {
	g := begun(t, 2, 1000)
	wantGive(t, g, 1020, 0, true)
	for _, now := range append(noTimes(), 0, 500, 949, 950, 999) {
		for node := range 2 {
			wantGive(t, g, now, node, false)
		}
		wantUntil(t, g, 1070, 1050)
	}
	wantGive(t, g, 1001, 1, true)
	wantUntil(t, g, 1070, 1051)
}

// 15.1: Veto

// sets are all sets of nodes of which chains are, rising.
func sets() [][]int {
	var l [][]int
	for bits := range 1 << api.MaxNodes {
		var set []int
		for node := range api.MaxNodes {
			if bits>>node%2 == 1 {
				set = append(set, node)
			}
		}
		l = append(l, set)
	}
	return l
}

// Each two sets of nodes, in clusters of each size, of which each set of nodes is promised until a later time than now.
func TestVetoOfAll(t *testing.T) {
	for n := 1; n <= api.MaxNodes; n++ {
		for _, promised := range sets() {
			g := begun(t, n, 0)
			for _, node := range promised {
				g.Give(1, node)
			}
			for _, from := range sets() {
				for _, to := range sets() {
					want := slices.ContainsFunc(promised, func(node int) bool {
						return node < n && slices.Contains(from, node) && !slices.Contains(to, node)
					})
					wantVeto(t, g, 50, of(1, from...), of(2, to...), want)
					wantVeto(t, g, 51, of(1, from...), of(2, to...), false)
				}
			}
			if t.Failed() {
				t.FailNow()
			}
		}
	}
}

// It is asked who is in them alone: nodes may stand in any order, and epochs be any.
func TestVetoInAnyOrder(t *testing.T) {
	g := begun(t, 5, 0)
	wantGive(t, g, 100, 3, true)
	epochs := []int{math.MinInt, -1, 0, 1, 2, 3, 7, api.MaxEpoch, api.MaxEpoch + 1, math.MaxInt}
	for _, a := range epochs {
		for _, b := range epochs {
			wantVeto(t, g, 120, of(a, 4, 3, 0, 1), of(b, 0, 4, 1), true)
			wantVeto(t, g, 120, of(a, 3, 4, 0, 1), of(b, 2, 1), true)
			wantVeto(t, g, 120, of(a, 3), of(b, 2), true)
			wantVeto(t, g, 120, of(a, 4, 3, 0, 1), of(b, 1, 3), false)
			wantVeto(t, g, 120, of(a, 4, 2, 0, 1), of(b, 1), false) // 3 is not left out
			wantVeto(t, g, 120, of(a, 1), of(b, 4, 2), false)
		}
	}
}

// Who is taken in, and who stands in none of them, is in nobody's way.
func TestVetoOfWhoIsNotLeftOut(t *testing.T) {
	g := begun(t, 5, 0)
	for _, x := range []struct{ from, to api.Chain }{
		{of(1, 0, 1, 2), of(2, 0, 1, 2)},
		{of(1, 0, 1, 2), of(2, 0, 1, 2, 4)},
		{of(1, 0, 1, 2), of(2, 2, 1, 0)},
		{of(1, 0), of(2, 0)},
		{of(1, 0), of(2, 1, 0)},
		{of(1), of(2)},
		{api.Chain{}, api.Chain{}},
		{of(1), of(2, 0, 1)},
		{api.Chain{}, of(2, 3)},
	} {
		for _, now := range []int{math.MinInt, -1, 0, 49, 50, math.MaxInt} {
			wantVeto(t, g, now, x.from, x.to, false)
		}
	}
}

func TestVetoOfOneOfMany(t *testing.T) {
	for node := range 5 {
		g := begun(t, 5, 0)
		wantGive(t, g, 30, node, true)
		for _, now := range []int{50, 79} {
			wantVeto(t, g, now, all(5), api.Chain{}, true)
			wantVeto(t, g, now, all(5), without(all(5), node), true)
			wantVeto(t, g, now, all(5), of(2, node), false)
			wantVeto(t, g, now, of(1, node), of(2, (node+1)%5), true)
			wantVeto(t, g, now, without(all(5), node), api.Chain{}, false)
		}
		wantVeto(t, g, 80, all(5), api.Chain{}, false)
	}
}

// A list without nodes is a list, nil or not.
func TestVetoWithoutNodes(t *testing.T) {
	g := begun(t, 2, 0)
	empty := api.Chain{Epoch: 2, Nodes: []int{}}
	for _, none := range []api.Chain{{}, of(2), empty} {
		wantVeto(t, g, 49, of(1, 0, 1), none, true)
		wantVeto(t, g, 50, of(1, 0, 1), none, false)
		wantVeto(t, g, 49, none, of(1, 0, 1), false)
		wantVeto(t, g, 49, none, empty, false)
	}
}

// Nodes that the cluster has not are promised nothing, however early it is.
func TestVetoOfNoNodes(t *testing.T) {
	for n := 1; n <= api.MaxNodes; n++ {
		g := begun(t, n, 0)
		for _, node := range noNodes(n) {
			wantGive(t, g, 40, node, false)
			for _, now := range append(noTimes(), 0, 49, 50) {
				wantVeto(t, g, now, of(1, node), of(2, 0), false)
				wantVeto(t, g, now, of(1, 0, node), of(2, 0), false)
				wantVeto(t, g, now, of(1, node, node), api.Chain{}, false)
				wantVeto(t, g, now, of(1, node, 0), of(2, node), now < 50)
			}
		}
	}
}

// It is told at any time, out of those in which promises are given, too.
func TestVetoAtAnyTime(t *testing.T) {
	for _, begin := range times() {
		g := begun(t, 2, begin)
		for _, now := range slices.Concat(times(), noTimes(), []int{begin - 1, begin, begin + 1, begin + 49, begin + 50, begin + 51}) {
			wantVeto(t, g, now, of(1, 0, 1), of(2, 1), now < begin+50)
		}
	}
}

func TestVetoChangesNothing(t *testing.T) {
	g := begun(t, 3, 10)
	wantGive(t, g, 20, 1, true)
	for _, now := range append(times(), noTimes()...) {
		g.Veto(now, all(3), of(2, 0))
		wantUntil(t, g, 60, 70, 60)
	}
	wantGive(t, g, 9, 0, false)
	wantGive(t, g, 10, 0, true)
}

// One that is there twice is there.
func TestVetoOfNodesThatStandTwice(t *testing.T) {
	g := begun(t, 3, 0)
	wantGive(t, g, 30, 1, true)
	wantVeto(t, g, 60, of(1, 0, 1, 0, 1, 1), of(2, 0, 0, 2, 2, 2, 0), true)
	wantVeto(t, g, 60, of(1, 0, 1, 0, 1, 1), of(2, 0, 0, 1), false)
	wantVeto(t, g, 60, of(1, 0, 0, 0, 2, 2), of(2, 1), false)
	wantVeto(t, g, 60, of(1, 2, 2, 1), of(2, 2), true)
}

// Long rows don't take longer than their lengths.
func TestVetoOfMany(t *testing.T) {
	const many = 1 << 20
	from, to := of(1), of(2)
	for i := range many {
		from.Nodes = append(from.Nodes, i%4)
		to.Nodes = append(to.Nodes, 4+i%2*1000)
	}
	g := begun(t, 5, 0)
	wantVeto(t, g, 49, from, to, true)
	wantVeto(t, g, 50, from, to, false)
	to.Nodes = append(to.Nodes, 3, 2, 1, 0)
	wantVeto(t, g, 49, from, to, false)
	wantVeto(t, g, 49, to, from, true) // 4 stands in it
}

// Of nil, and of ones that New did not make.

func TestNobody(t *testing.T) {
	var none *grant.Grants
	for _, g := range []*grant.Grants{none, new(grant.Grants)} {
		for _, now := range append(times(), noTimes()...) {
			for _, node := range append(noNodes(1), 0, 1, 2, 3, 4) {
				wantGive(t, g, now, node, false)
				if until := g.Until(node); until != 0 {
					t.Errorf("Until(%d): %d", node, until)
				}
			}
			for _, from := range sets() {
				wantVeto(t, g, now, of(1, from...), of(2, 0), true)
				wantVeto(t, g, now, of(1, from...), of(2, from...), true)
				wantVeto(t, g, now, api.Chain{}, api.Chain{}, true)
			}
		}
	}
}

// What is handed in.

func TestWhatIsHandedInStays(t *testing.T) {
	memory := []int{3, 1, 2, 77, 1, 0, 78}
	for i := range memory {
		for j := range memory {
			g := begun(t, 4, 0)
			g.Veto(49, api.Chain{Epoch: 1, Nodes: memory[:i]}, api.Chain{Epoch: 2, Nodes: memory[j:]})
			g.Veto(50, api.Chain{Epoch: 1, Nodes: memory[:i]}, api.Chain{Epoch: 2, Nodes: memory[j:]})
			if !slices.Equal(memory, []int{3, 1, 2, 77, 1, 0, 78}) {
				t.Fatalf("%v", memory)
			}
		}
	}
}

func TestWhatIsHandedInIsNotKept(t *testing.T) {
	g := begun(t, 3, 0)
	from, to := of(1, 0, 1), of(2, 0)
	wantVeto(t, g, 49, from, to, true)
	from.Nodes[1], to.Nodes[0] = 2, 2
	wantVeto(t, g, 49, of(1, 0, 1), of(2, 0), true)
	wantVeto(t, g, 49, of(1, 0), of(2, 0), false)
}

// No call panics, whatever it is given, and each says the same again.
func TestAnythingMayBeHandedIn(t *testing.T) {
	numbers := []int{math.MinInt, -51, -1, 0, 1, 2, 4, 5, 50, api.MaxTick, 1 << 62, math.MaxInt - 50, math.MaxInt}
	told := func() string {
		var s strings.Builder
		for _, n := range numbers {
			for _, a := range numbers {
				g, e := grant.New(n, a)
				fmt.Fprint(&s, e)
				for _, b := range numbers {
					for _, node := range numbers {
						fmt.Fprint(&s, g.Give(b, node), g.Until(node), g.Veto(b, of(a, node, b), of(b, a)))
					}
				}
			}
		}
		return s.String()
	}
	if told() != told() {
		t.Error("the same calls answer otherwise")
	}
}
