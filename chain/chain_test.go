package chain_test

import (
	"fmt"
	"math"
	"slices"
	"testing"

	"casebook/api"
	"casebook/chain"
	"casebook/item"
)

// of writes a chain shortly.
func of(epoch int, nodes ...int) api.Chain { return api.Chain{Epoch: epoch, Nodes: nodes} }

// orders are all rows of one to five nodes, no two alike.
func orders() [][]int {
	var all [][]int
	var grow func(l []int)
	grow = func(l []int) {
		for node := range api.MaxNodes {
			if !slices.Contains(l, node) {
				more := append(slices.Clone(l), node)
				all = append(all, more)
				grow(more)
			}
		}
	}
	grow(nil)
	return all
}

// never are chains that may not be.
func never() []api.Chain {
	l := []api.Chain{
		{}, of(1), {Epoch: 1, Nodes: []int{}}, of(1, 0, 0), of(1, 3, 1, 2, 3), of(1, 0, 1, 2, 4, 4),
		of(1, 0, 1, 2, 3, 4, 5), of(1, 0, 1, 2, 3, 4, 0), {Epoch: 1, Nodes: make([]int, 1000)},
	}
	for _, x := range []int{math.MinInt, -1, api.MaxEpoch + 1, math.MaxInt - 1, math.MaxInt} {
		l = append(l, of(x, 0, 1))
	}
	for _, x := range []int{math.MinInt, -1, api.MaxNodes, 1 << 32, math.MaxInt} {
		l = append(l, of(1, x), of(1, 1, x), of(1, x, 1))
	}
	return l
}

// strangers are numbers that no node has.
func strangers() []int {
	return []int{math.MinInt, math.MinInt + 1, -1 << 32, -api.MaxNodes, -2, -1, api.MaxNodes, api.MaxNodes + 1, 8, 64, 256, 1 << 32, 1<<32 + 1, math.MaxInt - 1, math.MaxInt}
}

func same(a, b api.Chain) bool { return a.Epoch == b.Epoch && slices.Equal(a.Nodes, b.Nodes) }

// wantChain fails unless a chain is as it should be, and OK.
func wantChain(t *testing.T, what string, got api.Chain, e int, want api.Chain) {
	t.Helper()
	if e != api.OK || !same(got, want) {
		t.Errorf("%s: %v, %d; not %v", what, got, e, want)
	}
}

// wantNone fails unless ErrArg is told, and nothing else.
func wantNone(t *testing.T, what string, got api.Chain, e int) {
	t.Helper()
	if e != api.ErrArg || got.Epoch != 0 || len(got.Nodes) != 0 {
		t.Errorf("%s: %v, %d; not ErrArg", what, got, e)
	}
}

func wantNumber(t *testing.T, what string, got, want int) {
	t.Helper()
	if got != want {
		t.Errorf("%s: %d; not %d", what, got, want)
	}
}

// 12.1: First

func TestFirst(t *testing.T) {
	for i, want := range []api.Chain{of(1, 0), of(1, 0, 1), of(1, 0, 1, 2), of(1, 0, 1, 2, 3), of(1, 0, 1, 2, 3, 4)} {
		c, e := chain.First(i + 1)
		wantChain(t, fmt.Sprintf("First(%d)", i+1), c, e, want)
		if !item.MayChain(c) {
			t.Errorf("%v may not be", c)
		}
	}
	for _, n := range []int{math.MinInt, -api.MaxNodes, -1, 0, api.MaxNodes + 1, 1<<32 + 1, math.MaxInt} {
		c, e := chain.First(n)
		wantNone(t, fmt.Sprintf("First(%d)", n), c, e)
	}
}

func TestFirstIsTheCallers(t *testing.T) {
	for n := 1; n <= api.MaxNodes; n++ {
		before, _ := chain.First(n)
		clear(before.Nodes)
		behind, e := chain.First(n)
		wantNumber(t, "First", e, api.OK)
		wantNumber(t, "the tail of another First", chain.Tail(behind), n-1)
	}
}

// 12.1: Next

func TestNextOfSome(t *testing.T) {
	a := of(1, 0, 1, 2)
	for _, x := range []struct {
		a, b api.Chain
		n    int
		want bool
	}{
		{a, of(2, 0, 2, 3), 5, true},
		{a, of(2, 2, 0), 5, false},
		{a, of(2, 0, 1, 2), 3, true},
		{a, of(2, 0, 1, 2, 3), 4, true},
		{a, of(2, 0, 1, 2, 4), 5, true},
		{a, of(2, 1), 3, true},
		{a, of(2, 2, 3), 4, true},
		{a, of(2, 1, 2, 0), 5, false},
		{a, of(2, 0, 2, 1), 5, false},
		{a, of(2, 3), 5, false},
		{a, of(2, 3, 0), 5, false},
		{a, of(2, 3, 4), 5, false},
		{a, of(2, 0, 3, 2), 5, false},
		{a, of(2, 0, 3, 4), 5, false},
		{a, of(2, 0, 1, 2, 3, 4), 5, false},
		{of(2, 0, 2), of(3, 0, 2, 1), 3, true},
		{of(4, 4, 2, 0), of(5, 4, 0, 3), 5, true},
		{of(4, 4, 2, 0), of(5, 0, 4), 5, false},
		{of(7, 3), of(8, 3), 4, true},
		{of(7, 3), of(8, 3, 0), 4, true},
		{of(7, 3), of(8, 0), 4, false},
		{of(7, 3), of(8, 0, 3), 4, false},
		{of(7, 3), of(8, 3, 0, 1), 4, false},
		{of(1, 0), of(2, 0), 1, true},
		{of(7, 4, 3, 2, 1, 0), of(8, 4, 3, 2, 1, 0), 5, true},
		{of(7, 4, 3, 2, 1, 0), of(8, 0, 1, 2, 3, 4), 5, false},
	} {
		if got := chain.Next(x.a, x.b, x.n); got != x.want {
			t.Errorf("Next(%v, %v, %d): %t", x.a, x.b, x.n, got)
		}
	}
}

func TestNextIsOneEpochMore(t *testing.T) {
	epochs := []int{math.MinInt, math.MinInt + 1, -2, -1, 0, 1, 2, 3, 4, 1 << 29, 1<<30 - 2, 1<<30 - 1, 1 << 30, 1<<30 + 1, 1<<32 + 1, math.MaxInt - 1, math.MaxInt}
	for _, before := range epochs {
		for _, behind := range epochs {
			want := before >= 0 && before < api.MaxEpoch && behind == before+1
			for _, nodes := range [][]int{{0, 1, 2}, {0, 2}, {1, 3}} {
				if got := chain.Next(of(before, 0, 1, 2), of(behind, nodes...), 4); got != want {
					t.Errorf("Next of epoch %d, %d, %v: %t", before, behind, nodes, got)
				}
			}
		}
	}
}

func TestNextOfNodesBelow(t *testing.T) {
	for _, x := range []struct {
		a, b  api.Chain
		least int
	}{
		{of(1, 0), of(2, 0), 1},
		{of(1, 0, 1, 2), of(2, 0, 1), 3}, // one that was in it is no node of a smaller cluster
		{of(1, 2, 0, 1), of(2, 0, 1), 3},
		{of(1, 0, 1), of(2, 0, 2), 3},
		{of(1, 0), of(2, 0, 4), 5},
		{of(1, 4, 0), of(2, 0), 5},
		{of(1, 4, 3, 2, 1, 0), of(2, 4), 5},
	} {
		for _, n := range append(strangers(), 0, 1, 2, 3, 4) {
			if got := chain.Next(x.a, x.b, n); got != (n >= x.least) {
				t.Errorf("Next(%v, %v, %d): %t", x.a, x.b, n, got)
			}
		}
	}
}

func TestNextOfWhatMayNotBe(t *testing.T) {
	for _, c := range never() {
		before, behind := c, c
		before.Epoch, behind.Epoch = c.Epoch-1, c.Epoch+1
		for _, x := range [][2]api.Chain{
			{c, behind}, {before, c}, {c, of(c.Epoch+1, 0, 1)}, {of(c.Epoch-1, 0, 1), c}, {c, of(c.Epoch+1, 0)}, {of(c.Epoch-1, 0), c},
			{c, of(c.Epoch+1, 1)}, {of(c.Epoch-1, 1), c}, {of(c.Epoch-1, 0, 1, 2, 3, 4), c}, {of(c.Epoch-1, 3, 1, 2), c}, {c, c},
		} {
			for _, n := range []int{2, 5, 1<<32 + 1, math.MaxInt} {
				if chain.Next(x[0], x[1], n) {
					t.Errorf("Next(%v, %v, %d) may be", x[0], x[1], n)
				}
			}
		}
	}
}

// mayFollow are the rows of nodes that may follow one, told otherwise: each choice of its nodes, alone and with each that it has not behind it.
func mayFollow(l []int) map[string]bool {
	all := map[string]bool{}
	for choice := 1; choice < 1<<len(l); choice++ {
		var some []int
		for i, node := range l {
			if choice>>i&1 == 1 {
				some = append(some, node)
			}
		}
		all[fmt.Sprint(some)] = true
		for node := range api.MaxNodes {
			if !slices.Contains(l, node) {
				all[fmt.Sprint(append(slices.Clone(some), node))] = true
			}
		}
	}
	return all
}

// Each two chains that may be, in clusters of each size.
func TestNextOfAll(t *testing.T) {
	rows := orders()
	names := make([]string, len(rows))
	for i, l := range rows {
		names[i] = fmt.Sprint(l)
	}
	if len(rows) != 325 {
		t.Fatalf("%d rows", len(rows))
	}
	for i, before := range rows {
		follow := mayFollow(before)
		found := 0
		for j, behind := range rows {
			least := max(slices.Max(before), slices.Max(behind)) + 1
			for n := range api.MaxNodes + 1 {
				want := follow[names[j]] && n >= least
				if got := chain.Next(of(i, before...), of(i+1, behind...), n); got != want {
					t.Fatalf("Next of %v, %v, %d: %t", before, behind, n, got)
				}
			}
			if follow[names[j]] {
				found++
			}
		}
		wantNumber(t, fmt.Sprintf("how many may follow %v", before), found, len(follow))
	}
}

// 12.2: Has, Head, Tail, Above, Below

// wantPlaces fails unless a chain's nodes are told to stand as a row does.
func wantPlaces(t *testing.T, c api.Chain) {
	t.Helper()
	at := func(k int) int {
		if k >= 0 && k < len(c.Nodes) {
			return c.Nodes[k]
		}
		return -1
	}
	wantNumber(t, fmt.Sprint("Head of ", c), chain.Head(c), at(0))
	wantNumber(t, fmt.Sprint("Tail of ", c), chain.Tail(c), at(len(c.Nodes)-1))
	for k, node := range c.Nodes {
		if !chain.Has(c, node) {
			t.Errorf("%v has not %d", c, node)
		}
		wantNumber(t, fmt.Sprintf("Above %d in %v", node, c), chain.Above(c, node), at(k-1))
		wantNumber(t, fmt.Sprintf("Below %d in %v", node, c), chain.Below(c, node), at(k+1))
	}
	for _, node := range append(strangers(), 0, 1, 2, 3, 4) {
		if slices.Contains(c.Nodes, node) {
			continue
		}
		if chain.Has(c, node) {
			t.Errorf("%v has %d", c, node)
		}
		wantNumber(t, fmt.Sprintf("Above %d, which is not in %v", node, c), chain.Above(c, node), -1)
		wantNumber(t, fmt.Sprintf("Below %d, which is not in %v", node, c), chain.Below(c, node), -1)
	}
}

func TestPlacesOfSome(t *testing.T) {
	c := of(4, 3, 0, 2)
	wantNumber(t, "Head", chain.Head(c), 3)
	wantNumber(t, "Tail", chain.Tail(c), 2)
	wantNumber(t, "Above the head", chain.Above(c, 3), -1)
	wantNumber(t, "Above 0", chain.Above(c, 0), 3)
	wantNumber(t, "Above the tail", chain.Above(c, 2), 0)
	wantNumber(t, "Below the head", chain.Below(c, 3), 0)
	wantNumber(t, "Below 0", chain.Below(c, 0), 2)
	wantNumber(t, "Below the tail", chain.Below(c, 2), -1)
	wantNumber(t, "Above one that is not in it", chain.Above(c, 1), -1)
	wantNumber(t, "Below one that is not in it", chain.Below(c, 1), -1)
	if !chain.Has(c, 3) || !chain.Has(c, 0) || !chain.Has(c, 2) || chain.Has(c, 1) || chain.Has(c, 4) || chain.Has(c, -1) {
		t.Error("Has")
	}
}

func TestPlacesOfAll(t *testing.T) {
	for i, nodes := range orders() {
		wantPlaces(t, of(i, nodes...))
	}
}

func TestPlacesWithoutNodes(t *testing.T) {
	for _, c := range []api.Chain{{}, {Nodes: []int{}}, of(3), of(-1), {Epoch: math.MaxInt, Nodes: []int{}}} {
		wantNumber(t, "Head", chain.Head(c), -1)
		wantNumber(t, "Tail", chain.Tail(c), -1)
		wantPlaces(t, c)
	}
}

// Who stands where is told of the nodes alone, whatever else of the chain may not be.
func TestPlacesOfWhatMayNotBe(t *testing.T) {
	for _, c := range []api.Chain{of(-1, 2, 0), of(math.MinInt, 0), of(api.MaxEpoch+1, 1, 2), of(1, 4, 5, 0, 6, 1, 7, 2), of(1, 0, math.MaxInt, 7)} {
		wantPlaces(t, c)
	}
}

// 12.2: Without

func TestWithoutSome(t *testing.T) {
	for _, x := range []struct {
		c     api.Chain
		nodes []int
		want  api.Chain
	}{
		{of(1, 0, 1, 2), []int{1}, of(2, 0, 2)},
		{of(1, 0, 1, 2), []int{0}, of(2, 1, 2)},
		{of(1, 0, 1, 2), []int{2}, of(2, 0, 1)},
		{of(1, 0, 1, 2), []int{2, 0}, of(2, 1)},
		{of(1, 0, 1, 2), []int{0, 2}, of(2, 1)},
		{of(1, 0, 1, 2), []int{2, 2, 2}, of(2, 0, 1)},
		{of(1, 0, 1, 2), nil, of(2, 0, 1, 2)},
		{of(1, 0, 1, 2), []int{}, of(2, 0, 1, 2)},
		{of(1, 0, 1, 2), strangers(), of(2, 0, 1, 2)},
		{of(1, 0, 1, 2), append(strangers(), 3, 1, 4), of(2, 0, 2)},
		{of(9, 4, 2, 0, 3, 1), []int{2, 3}, of(10, 4, 0, 1)},
		{of(9, 4), []int{0, 1, 2, 3}, of(10, 4)},
	} {
		got, e := chain.Without(x.c, x.nodes)
		wantChain(t, fmt.Sprintf("%v without %v", x.c, x.nodes), got, e, x.want)
	}
}

func TestWithoutAnybodyLeft(t *testing.T) {
	for _, x := range []struct {
		c     api.Chain
		nodes []int
	}{
		{of(1, 0), []int{0}},
		{of(1, 0, 1, 2), []int{0, 1, 2}},
		{of(1, 0, 1, 2), []int{4, 2, 1, 0, 2}},
		{of(1, 3, 4), []int{0, 1, 2, 3, 4}},
		{of(1), nil},
		{api.Chain{}, []int{0}},
		{api.Chain{Epoch: 2, Nodes: []int{}}, []int{}},
	} {
		got, e := chain.Without(x.c, x.nodes)
		wantNone(t, fmt.Sprintf("%v without %v", x.c, x.nodes), got, e)
	}
}

// Each chain without each of the sets of nodes.
func TestWithoutOfAll(t *testing.T) {
	for i, l := range orders() {
		for set := range 1 << api.MaxNodes {
			var nodes, want []int
			for node := range api.MaxNodes {
				if set>>node&1 == 1 {
					nodes = append(nodes, node)
				}
			}
			for _, node := range l {
				if set>>node&1 == 0 {
					want = append(want, node)
				}
			}
			c, what := of(i, l...), fmt.Sprintf("%v without %v", l, nodes)
			got, e := chain.Without(c, nodes)
			if len(want) == 0 {
				wantNone(t, what, got, e)
				continue
			}
			wantChain(t, what, got, e, of(i+1, want...))
			if !chain.Next(c, got, api.MaxNodes) {
				t.Errorf("%s may not follow", what)
			}
		}
	}
}

// Epochs from which the next one's chain may be, or not.
func epochs() map[int]bool {
	return map[int]bool{
		math.MinInt: false, -api.MaxEpoch: false, -2: false, -1: true, 0: true, 1: true, 300: true,
		api.MaxEpoch - 2: true, api.MaxEpoch - 1: true, api.MaxEpoch: false, api.MaxEpoch + 1: false, 1<<32 + 1: false, math.MaxInt - 1: false, math.MaxInt: false,
	}
}

func TestWithoutAtEachEpoch(t *testing.T) {
	for epoch, may := range epochs() {
		for _, nodes := range [][]int{nil, {1}, {3}} {
			c := of(epoch, 0, 1, 2)
			what := fmt.Sprintf("%v without %v", c, nodes)
			got, e := chain.Without(c, nodes)
			switch {
			case !may:
				wantNone(t, what, got, e)
			case slices.Contains(nodes, 1):
				wantChain(t, what, got, e, of(epoch+1, 0, 2))
			default:
				wantChain(t, what, got, e, of(epoch+1, 0, 1, 2))
			}
		}
	}
}

// It is what is left that may be, or not.
func TestWithoutWhatMayNotBe(t *testing.T) {
	for _, x := range []struct {
		c     api.Chain
		nodes []int
	}{
		{of(1, 0, 0, 1), nil},
		{of(1, 0, 0, 1), []int{1}},
		{of(1, 0, 7, 1), []int{0}},
		{of(1, -1, 0), []int{1}},
		{of(1, 0, 1, 2, 3, 4, 5), []int{0}},
		{of(1, 0, 1, 2, 3, 4, 5), []int{6}},
		{api.Chain{Epoch: 1, Nodes: make([]int, 1000)}, []int{1}},
	} {
		got, e := chain.Without(x.c, x.nodes)
		wantNone(t, fmt.Sprintf("%v without %v", x.c, x.nodes), got, e)
	}
	for _, x := range []struct {
		c     api.Chain
		nodes []int
		want  api.Chain
	}{
		{of(1, 0, 0, 1), []int{0}, of(2, 1)},
		{of(1, 0, 7, 1), []int{7}, of(2, 0, 1)},
		{of(1, -1, 0), []int{-1}, of(2, 0)},
		{of(1, 0, 1, 2, 3, 4, 5), []int{5}, of(2, 0, 1, 2, 3, 4)},
	} {
		got, e := chain.Without(x.c, x.nodes)
		wantChain(t, fmt.Sprintf("%v without %v", x.c, x.nodes), got, e, x.want)
	}
}

// Long rows don't take longer than their lengths.
func TestWithoutMany(t *testing.T) {
	const many = 1 << 20
	c, nodes := of(1), make([]int, many)
	for i := range many {
		c.Nodes = append(c.Nodes, i)
		nodes[i] = many - 1 - i
	}
	got, e := chain.Without(c, nodes)
	wantNone(t, "without all of many", got, e)
	got, e = chain.Without(c, nodes[:many-2])
	wantChain(t, "without all of many but two", got, e, of(2, 0, 1))
}

// 12.2: With

func TestWithSome(t *testing.T) {
	for _, x := range []struct {
		c    api.Chain
		node int
		want api.Chain
	}{
		{of(2, 0, 2), 1, of(3, 0, 2, 1)},
		{of(1, 0, 1, 2), 3, of(2, 0, 1, 2, 3)},
		{of(1, 4), 0, of(2, 4, 0)},
		{of(6, 4, 3, 2, 1), 0, of(7, 4, 3, 2, 1, 0)},
		{of(6, 0, 1, 2, 3), 4, of(7, 0, 1, 2, 3, 4)},
	} {
		got, e := chain.With(x.c, x.node)
		wantChain(t, fmt.Sprintf("%v with %d", x.c, x.node), got, e, x.want)
	}
}

// Each chain with each node, and with what is none.
func TestWithOfAll(t *testing.T) {
	for i, l := range orders() {
		c := of(i, l...)
		for _, node := range append(strangers(), l...) {
			got, e := chain.With(c, node)
			wantNone(t, fmt.Sprintf("%v with %d", l, node), got, e)
		}
		for node := range api.MaxNodes {
			if slices.Contains(l, node) {
				continue
			}
			got, e := chain.With(c, node)
			wantChain(t, fmt.Sprintf("%v with %d", l, node), got, e, of(i+1, append(slices.Clone(l), node)...))
			if !chain.Next(c, got, api.MaxNodes) {
				t.Errorf("%v may not follow %v", got, c)
			}
		}
	}
}

func TestWithAtEachEpoch(t *testing.T) {
	for epoch, may := range epochs() {
		c := of(epoch, 0, 2)
		got, e := chain.With(c, 1)
		if may {
			wantChain(t, fmt.Sprint(c, " with 1"), got, e, of(epoch+1, 0, 2, 1))
		} else {
			wantNone(t, fmt.Sprint(c, " with 1"), got, e)
		}
		got, e = chain.With(c, 2)
		wantNone(t, fmt.Sprint(c, " with 2"), got, e)
	}
}

func TestWithWhatMayNotBe(t *testing.T) {
	for _, c := range []api.Chain{
		of(1, 0, 0), of(1, -1), of(1, 0, 7), of(1, 4, 3, 2, 1, 5), of(1, 0, 1, 3, 4, 5, 6), {Epoch: 1, Nodes: make([]int, 1000)},
	} {
		for _, node := range append(strangers(), 0, 1, 2, 3, 4) {
			got, e := chain.With(c, node)
			wantNone(t, fmt.Sprintf("%v with %d", c, node), got, e)
		}
	}
}

// One that is behind nobody is all of the next epoch's, which may be.
func TestWithoutNodesWithOne(t *testing.T) {
	for _, c := range []api.Chain{of(6), {Epoch: 6, Nodes: []int{}}} {
		got, e := chain.With(c, 3)
		wantChain(t, "without nodes, with 3", got, e, of(7, 3))
		for _, node := range strangers() {
			got, e := chain.With(c, node)
			wantNone(t, fmt.Sprintf("without nodes, with %d", node), got, e)
		}
	}
}

// 12.2: Same

func TestSame(t *testing.T) {
	rows := orders()
	for i, a := range rows {
		for j, b := range rows {
			if got := chain.Same(of(3, a...), of(3, slices.Clone(b)...)); got != (i == j) {
				t.Fatalf("Same of %v, %v: %t", a, b, got)
			}
			if chain.Same(of(3, a...), of(4, b...)) {
				t.Fatalf("Same of %v, %v, of other epochs", a, b)
			}
		}
	}
}

func TestSameOfEpochs(t *testing.T) {
	l := []int{math.MinInt, -1, 0, 1, 2, 1<<32 + 1, math.MaxInt}
	for i, a := range l {
		for j, b := range l {
			if got := chain.Same(of(a, 0, 1), of(b, 0, 1)); got != (i == j) {
				t.Errorf("Same of epochs %d, %d: %t", a, b, got)
			}
			if got := chain.Same(of(a), of(b)); got != (i == j) {
				t.Errorf("Same of epochs %d, %d without nodes: %t", a, b, got)
			}
		}
	}
}

// A nil list is an empty one; chains that may not be are the same too, if all their parts are.
func TestSameOfOthers(t *testing.T) {
	empty := api.Chain{Epoch: 2, Nodes: []int{}}
	if !chain.Same(of(2), empty) || !chain.Same(empty, of(2)) || !chain.Same(api.Chain{}, api.Chain{}) {
		t.Error("chains without nodes are not the same")
	}
	for i, a := range never()[3:] {
		for j, b := range never()[3:] {
			if got := chain.Same(a, b); got != (i == j) {
				t.Errorf("Same of %v, %v: %t", a, b, got)
			}
		}
		if chain.Same(a, empty) || chain.Same(empty, a) || chain.Same(a, of(1)) {
			t.Errorf("%v is the same as one without nodes", a)
		}
	}
}

// What is handed in, and what is answered.

func TestWhatIsAnsweredIsNew(t *testing.T) {
	for _, nodes := range orders() {
		for name, call := range map[string]func(c api.Chain) (api.Chain, int){
			"Without nobody": func(c api.Chain) (api.Chain, int) { return chain.Without(c, nil) },
			"Without 1":      func(c api.Chain) (api.Chain, int) { return chain.Without(c, []int{1}) },
			"With 1":         func(c api.Chain) (api.Chain, int) { return chain.With(c, 1) },
			"With 4":         func(c api.Chain) (api.Chain, int) { return chain.With(c, 4) },
		} {
			c := of(5, nodes...)
			a, e := call(c)
			b, _ := call(c)
			if e != api.OK {
				continue
			}
			kept := slices.Clone(a.Nodes)
			clear(b.Nodes[:cap(b.Nodes)])
			if !slices.Equal(a.Nodes, kept) {
				t.Errorf("%s of %v: two answers share memory", name, nodes)
			}
			own := of(5, slices.Clone(nodes)...)
			a, _ = call(own)
			clear(own.Nodes)
			if !slices.Equal(a.Nodes, kept) {
				t.Errorf("%s of %v: it shares what was handed in", name, nodes)
			}
		}
	}
}

// handed answers a chain of some nodes, and its memory, which has more behind them.
func handed(nodes []int) (api.Chain, []int) {
	memory := slices.Concat(nodes, []int{77, 78})
	return api.Chain{Epoch: 5, Nodes: memory[:len(nodes)]}, memory
}

func TestWhatIsHandedInStays(t *testing.T) {
	for _, nodes := range orders() {
		a, memoryA := handed(nodes)
		b, memoryB := handed(nodes[:1])
		out, memoryOut := []int{4, 1, 4, 0, 9}[:3], []int{4, 1, 4, 0, 9}
		b.Epoch++
		for node := -1; node <= api.MaxNodes; node++ {
			chain.With(a, node)
			chain.Has(a, node)
			chain.Above(a, node)
			chain.Below(a, node)
		}
		chain.Without(a, out)
		chain.Without(a, nil)
		chain.Next(a, b, api.MaxNodes)
		chain.Same(a, b)
		chain.Head(a)
		chain.Tail(a)
		if !slices.Equal(memoryA, slices.Concat(nodes, []int{77, 78})) || !slices.Equal(memoryB, slices.Concat(nodes[:1], []int{77, 78})) || !slices.Equal(out[:5], memoryOut) {
			t.Errorf("of %v: %v, %v, %v", nodes, memoryA, memoryB, out[:5])
		}
	}
}

// No call panics, whatever it is given, and each says the same again.
func TestAnythingMayBeHandedIn(t *testing.T) {
	l := append(never(), of(1, 0, 1, 2), of(0, 4), of(api.MaxEpoch, 0, 1, 2, 3, 4), of(-1, 5, -1, 5))
	told := func() string {
		s := ""
		for _, a := range l {
			for _, n := range append(strangers(), 0, 1, 2, 3, 4) {
				with, withE := chain.With(a, n)
				without, withoutE := chain.Without(a, []int{n, n + 1})
				s += fmt.Sprint(chain.Has(a, n), chain.Above(a, n), chain.Below(a, n), with, withE, without, withoutE, chain.Next(a, with, n), chain.Next(a, without, n))
			}
			for _, b := range l {
				without, e := chain.Without(a, b.Nodes)
				s += fmt.Sprint(chain.Same(a, b), chain.Next(a, b, 5), without, e)
			}
			s += fmt.Sprint(chain.Head(a), chain.Tail(a))
		}
		return s
	}
	if told() != told() {
		t.Error("the same calls answer otherwise")
	}
}
