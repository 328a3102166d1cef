package client_test

import (
	"fmt"
	"math"
	"slices"
	"strings"
	"testing"

	"casebook/api"
	"casebook/client"
)

// begun answers a new one of what may be.
func begun(t *testing.T, id, n int) *client.Client {
	t.Helper()
	c, e := client.New(id, n)
	if c == nil || e != api.OK {
		t.Fatalf("New(%d, %d): %v, %d", id, n, c, e)
	}
	return c
}

func chainOf(epoch int, nodes ...int) api.Chain { return api.Chain{Epoch: epoch, Nodes: nodes} }

// kinds are requests of each kind, of no client.
func kinds() []api.Req {
	most := strings.Repeat("d", api.MaxData)
	return []api.Req{
		{Kind: api.OpCreate}, {Kind: api.OpCreate, Id: api.MaxId, Data: most},
		{Kind: api.OpUpdate, Id: 3, Data: "a"}, {Kind: api.OpUpdate, Id: 3, Match: api.MaxQuota, Data: most},
		{Kind: api.OpDelete, Id: 3}, {Kind: api.OpDelete, Id: 3, Match: api.MaxQuota},
		{Kind: api.OpRead}, {Kind: api.OpRead, Id: api.MaxId},
		{Kind: api.OpVersion, Id: 3, Match: 1}, {Kind: api.OpVersion, Id: 3, Match: api.MaxQuota}, {Kind: api.OpHistory, Id: 3},
	}
}

// never are requests that may not be, whoever asks them.
func never() []api.Req {
	return []api.Req{
		{}, {Kind: -1}, {Kind: 7}, {Kind: math.MaxInt},
		{Kind: api.OpCreate, Id: -1}, {Kind: api.OpCreate, Id: api.MaxId + 1}, {Kind: api.OpRead, Id: 1 << 32},
		{Kind: api.OpCreate, Match: 1}, {Kind: api.OpCreate, Data: strings.Repeat("d", api.MaxData+1)},
		{Kind: api.OpUpdate, Match: -1}, {Kind: api.OpUpdate, Match: api.MaxQuota + 1}, {Kind: api.OpUpdate, Data: strings.Repeat("d", api.MaxData+1)},
		{Kind: api.OpDelete, Data: "a"}, {Kind: api.OpDelete, Match: api.MaxQuota + 1},
		{Kind: api.OpRead, Match: 1}, {Kind: api.OpRead, Data: "a"},
		{Kind: api.OpVersion}, {Kind: api.OpVersion, Match: api.MaxQuota + 1}, {Kind: api.OpVersion, Match: 1, Data: "a"},
		{Kind: api.OpHistory, Match: 1}, {Kind: api.OpHistory, Data: "a"},
	}
}

func writes(q api.Req) bool { return q.Kind <= api.OpDelete }

// times are moments of all kinds that may be.
func times() []int { return []int{0, 1, 8, 10, 1000, 1 << 32, api.MaxTick - 1, api.MaxTick} }

// noTimes are moments that may not be.
func noTimes() []int {
	return []int{math.MinInt, math.MinInt + 1, -api.MaxTick, -1 << 32, -8, -1, api.MaxTick + 1, api.MaxTick + 2, 2 * api.MaxTick, math.MaxInt - 1, math.MaxInt}
}

// noSeqs are numbers that no request has, or none that is near.
func noSeqs() []int {
	return []int{math.MinInt, math.MinInt + 1, -1 << 32, -2, -1, 0, 1000, api.MaxSeq, api.MaxSeq + 1, 1 << 32, 1<<32 + 1, math.MaxInt}
}

// wantPending fails unless this request is pending, with so many tries.
func wantPending(t *testing.T, c *client.Client, want api.Req, tries int) {
	t.Helper()
	if q, ok := c.Pending(); q != want || !ok {
		t.Errorf("Pending: %v, %t; not %v", q, ok, want)
	}
	if c.Seq() != want.Seq || c.Tries() != tries {
		t.Errorf("Seq: %d, Tries: %d; not %d, %d", c.Seq(), c.Tries(), want.Seq, tries)
	}
}

// wantNone fails unless nothing is pending, and the last request had this number.
func wantNone(t *testing.T, c *client.Client, seq int) {
	t.Helper()
	if q, ok := c.Pending(); q != (api.Req{}) || ok {
		t.Errorf("Pending: %v, %t", q, ok)
	}
	if c.Seq() != seq || c.Tries() != 0 {
		t.Errorf("Seq: %d, Tries: %d; not %d, 0", c.Seq(), c.Tries(), seq)
	}
	for _, now := range append(times(), noTimes()...) {
		wantTick(t, c, now, -1)
	}
	for _, other := range append(noSeqs(), seq-1, seq, seq+1) {
		wantAnswer(t, c, other, false)
	}
}

// wantAsk fails unless a request is asked of this node.
func wantAsk(t *testing.T, c *client.Client, now int, q api.Req, want int) {
	t.Helper()
	if node, e := c.Ask(now, q); node != want || e != api.OK {
		t.Errorf("Ask(%d, %v): %d, %d; not %d", now, q, node, e, want)
	}
}

// wantError fails unless a request may not be asked, by this error.
func wantError(t *testing.T, c *client.Client, now int, q api.Req, want int) {
	t.Helper()
	if node, e := c.Ask(now, q); node != 0 || e != want {
		t.Errorf("Ask(%d, %v): %d, %d; not 0, %d", now, q, node, e, want)
	}
}

// wantTick fails unless it asks this node again; -1: nobody.
func wantTick(t *testing.T, c *client.Client, now, want int) {
	t.Helper()
	if node, ok := c.Tick(now); node != want || ok != (want >= 0) {
		t.Errorf("Tick(%d): %d, %t; not %d", now, node, ok, want)
	}
}

func wantAnswer(t *testing.T, c *client.Client, seq int, want bool) {
	t.Helper()
	if c.Answer(seq) != want {
		t.Errorf("Answer(%d): %t", seq, !want)
	}
}

// 21.1: New

func TestNew(t *testing.T) {
	for id := range api.MaxClients {
		for n := 1; n <= api.MaxNodes; n++ {
			wantNone(t, begun(t, id, n), 0)
		}
	}
}

func TestNewOfWhatMayNotBe(t *testing.T) {
	noClients := []int{math.MinInt, -1 << 32, -api.MaxClients, -2, -1, api.MaxClients, api.MaxClients + 1, 1 << 32, 1<<32 + 1, math.MaxInt}
	noSizes := []int{math.MinInt, -1 << 32, -api.MaxNodes, -2, -1, 0, api.MaxNodes + 1, api.MaxNodes + 2, 1 << 32, 1<<32 + 1, math.MaxInt}
	wantNone := func(id, n int) {
		t.Helper()
		if c, e := client.New(id, n); c != nil || e != api.ErrArg {
			t.Errorf("New(%d, %d): %v, %d", id, n, c, e)
		}
	}
	for _, id := range noClients {
		for _, n := range append(noSizes, 1, api.MaxNodes) {
			wantNone(id, n)
		}
	}
	for _, n := range noSizes {
		wantNone(0, n)
		wantNone(api.MaxClients-1, n)
	}
}

func TestNewOnesAreApart(t *testing.T) {
	one, two := begun(t, 1, 3), begun(t, 1, 3)
	wantAsk(t, one, 10, kinds()[0], 1)
	wantNone(t, two, 0)
	wantAsk(t, two, 20, kinds()[1], 1)
	one.Told(1, chainOf(1, 2))
	wantTick(t, two, 36, 2) // due as it was asked at 20; and no chain is known, so it is the turn of 2 modulo 3
	wantAnswer(t, two, 1, true)
	wantTick(t, one, 18, 2)
}

// 21.1: Ask

// A request is pending as its own, whatever it says of whose it is; nobody is known, so the node 1 is asked first.
func TestAsk(t *testing.T) {
	for id := range api.MaxClients {
		for n := 1; n <= api.MaxNodes; n++ {
			for _, now := range times() {
				for k, q := range kinds() {
					c := begun(t, id, n)
					said := q
					said.Client, said.Seq = []int{0, -1, math.MaxInt, id + 1}[k%4], []int{0, 9, math.MinInt}[k%3]
					wantAsk(t, c, now, said, 1%n)
					q.Client, q.Seq = id, 1
					wantPending(t, c, q, 1)
				}
			}
		}
	}
}

// Each one has the number behind the last one's.
func TestAskCounts(t *testing.T) {
	c := begun(t, 2, 3)
	for seq := 1; seq <= 300; seq++ {
		q := kinds()[seq%len(kinds())]
		q.Client, q.Seq = 2, seq
		wantAsk(t, c, 1000-seq, q, 1) // times need not rise
		wantPending(t, c, q, 1)
		wantAnswer(t, c, seq, true)
		if seq%50 == 1 {
			wantNone(t, c, seq)
		}
	}
}

// What may not be takes no number.
func TestAskOfWhatMayNotBe(t *testing.T) {
	c := begun(t, 2, 3)
	for seq := 0; seq < 3; seq++ {
		for _, q := range never() {
			q.Client, q.Seq = 2, seq+1
			wantError(t, c, 10, q, api.ErrArg)
		}
		for _, now := range noTimes() {
			wantError(t, c, now, kinds()[0], api.ErrArg)
		}
		wantNone(t, c, seq)
		wantAsk(t, c, 10, kinds()[seq], 1)
		wantAnswer(t, c, seq+1, true)
	}
}

func TestAskWhileOneIsPending(t *testing.T) {
	for _, q := range kinds() {
		c := begun(t, 2, 3)
		wantAsk(t, c, 10, q, 1)
		first, _ := c.Pending()
		for tries := 1; tries < 5; tries++ {
			for _, other := range kinds() {
				for _, now := range times() {
					wantError(t, c, now, other, api.ErrState)
				}
				for _, now := range noTimes() {
					wantError(t, c, now, other, api.ErrArg)
				}
			}
			for _, other := range never() {
				wantError(t, c, 10, other, api.ErrArg)
			}
			wantPending(t, c, first, tries)
			wantTick(t, c, 100*tries, (tries+1)%3)
		}
		wantAnswer(t, c, 1, true)
		wantAsk(t, c, 10, q, 1)
		q.Client, q.Seq = 2, 2
		wantPending(t, c, q, 1)
	}
}

// 21.1: Tick

// It asks again behind 8, 16, 24, 32, 32 .. ticks, each counted from the last try.
func TestTickAsksWhenItIsDue(t *testing.T) {
	for n := 1; n <= api.MaxNodes; n++ {
		for _, q := range kinds() {
			for _, at := range []int{0, 1, 1000, api.MaxTick - 200} {
				c := begun(t, 3, n)
				wantAsk(t, c, at, q, 1%n)
				want, _ := c.Pending()
				last := at
				for tries := 1; tries <= 6; tries++ {
					for now := last - 3; now < last+8*min(tries, 4); now++ {
						wantTick(t, c, now, -1)
					}
					wantPending(t, c, want, tries)
					last += 8 * min(tries, 4)
					wantTick(t, c, last, (tries+1)%n)
					wantPending(t, c, want, tries+1)
				}
			}
		}
	}
}

// It is asked at the tick at which it is asked, not at that at which it was due.
func TestTickThatIsLate(t *testing.T) {
	c := begun(t, 0, 2)
	wantAsk(t, c, 10, kinds()[0], 1)
	wantTick(t, c, 50, 0)
	wantTick(t, c, 65, -1)
	wantTick(t, c, 66, 1)
	wantTick(t, c, 66, -1)
	wantTick(t, c, api.MaxTick, 0)
	wantTick(t, c, api.MaxTick+31, -1)
}

func TestTickOfNoTime(t *testing.T) {
	c := begun(t, 0, 2)
	wantAsk(t, c, 10, kinds()[0], 1)
	for _, now := range noTimes() {
		if now < 0 {
			wantTick(t, c, now, -1)
		}
	}
	wantTick(t, c, 18, 0)
}

// 21.1: Told, and whom to ask by it

// The head is asked for what writes, else the node at the place 1, and in the second try that at the place 2; later it is each one's turn.
func TestToldIsAskedFirst(t *testing.T) {
	for _, q := range kinds() {
		for _, nodes := range [][]int{{0}, {4}, {2, 0}, {3, 1, 0}, {4, 3, 2, 0, 1}} {
			c := begun(t, 0, 5)
			wantAsk(t, c, 10, q, 1)
			c.Told(1, chainOf(0, nodes...))
			first, second := nodes[1%len(nodes)], nodes[2%len(nodes)]
			if writes(q) {
				first, second = nodes[0], nodes[0]
			}
			wantTick(t, c, 18, second)
			wantTick(t, c, 34, 3)
			wantTick(t, c, 58, 4)
			wantTick(t, c, 90, 0)
			wantAnswer(t, c, 1, true)
			wantAsk(t, c, 100, q, first) // it is known behind the answer
			wantTick(t, c, 108, second)
			wantTick(t, c, 124, 3)
		}
	}
}

// head answers whom it would ask for what writes: it has nothing pending, and has again nothing pending.
func head(t *testing.T, c *client.Client) int {
	t.Helper()
	node, e := c.Ask(10, kinds()[0])
	if e != api.OK || !c.Answer(c.Seq()) {
		t.Fatalf("Ask: %d", e)
	}
	return node
}

// asking answers one that has asked so many times; the last one waits.
func asking(t *testing.T, times int) *client.Client {
	t.Helper()
	c := begun(t, 0, 5)
	for seq := 1; seq <= times; seq++ {
		wantAsk(t, c, 10, kinds()[0], 1)
		if seq < times {
			wantAnswer(t, c, seq, true)
		}
	}
	return c
}

func TestToldByEpochs(t *testing.T) {
	c := asking(t, 1)
	tell := func(epoch, node, want int) {
		t.Helper()
		seq := c.Seq()
		if _, ok := c.Pending(); !ok {
			wantAsk(t, c, 10, kinds()[0], head(t, c))
			seq = c.Seq()
		}
		c.Told(seq, chainOf(epoch, node))
		wantAnswer(t, c, seq, true)
		if got := head(t, c); got != want {
			t.Errorf("told of %d by %d: %d is asked, not %d", node, epoch, got, want)
		}
	}
	tell(0, 2, 2)
	tell(0, 3, 3) // of no lesser one
	tell(7, 4, 4)
	tell(6, 2, 4)
	tell(0, 2, 4)
	tell(7, 0, 0)
	tell(8, 2, 2)
	tell(api.MaxEpoch, 3, 3)
	tell(api.MaxEpoch-1, 2, 3)
	tell(api.MaxEpoch, 0, 0)
	tell(api.MaxEpoch+1, 2, 0)
	tell(8, 2, 0)
}

func TestToldOfChainsThatMayNotBe(t *testing.T) {
	may := chainOf(3, 4, 2)
	for _, known := range []api.Chain{
		{}, chainOf(5), chainOf(-1, 3), chainOf(math.MinInt, 3), chainOf(api.MaxEpoch+1, 3), chainOf(math.MaxInt, 3),
		chainOf(5, 3, 3), chainOf(5, 3, 1, 3), chainOf(5, 3, -1), chainOf(5, 3, 5), chainOf(5, -1), chainOf(5, 0, 1, 2, 3, 4, 0), chainOf(5, 3, 1<<32),
	} {
		c := asking(t, 1)
		c.Told(1, known)
		wantAnswer(t, c, 1, true)
		wantAsk(t, c, 10, kinds()[0], 1)
		c.Told(2, may)
		c.Told(2, known)
		wantAnswer(t, c, 2, true)
		wantAsk(t, c, 10, kinds()[0], 4)
	}
}

// Nodes that its cluster has not may be known: then it is each one's turn.
func TestToldOfNodesOfOtherClusters(t *testing.T) {
	c := begun(t, 0, 2)
	wantAsk(t, c, 10, kinds()[0], 1)
	c.Told(1, chainOf(2, 0))
	c.Told(1, chainOf(3, 0, 4))
	wantTick(t, c, 18, 0) // 2 modulo 2
	wantAnswer(t, c, 1, true)
	wantAsk(t, c, 10, kinds()[0], 1) // 1 modulo 2, not 0
	c.Told(2, chainOf(2, 0))         // of a lesser one than is known
	wantAnswer(t, c, 2, true)
	wantAsk(t, c, 10, kinds()[0], 1)
	c.Told(3, chainOf(3, 0))
	wantAnswer(t, c, 3, true)
	wantAsk(t, c, 10, kinds()[0], 0)
}

// Who tells of another request than the one that is pending is not heard.
func TestToldOfOtherRequests(t *testing.T) {
	for last := 1; last <= 3; last++ {
		c := asking(t, last)
		for _, seq := range append(noSeqs(), last-1, last+1) {
			c.Told(seq, chainOf(9, 4))
		}
		wantPending(t, c, api.Req{Client: 0, Seq: last, Kind: api.OpCreate}, 1)
		wantTick(t, c, 18, 2)
		wantAnswer(t, c, last, true)
		for _, seq := range append(noSeqs(), last-1, last, last+1) {
			c.Told(seq, chainOf(9, 4))
		}
		wantNone(t, c, last)
		wantAsk(t, c, 10, kinds()[0], 1)
	}
	c := begun(t, 0, 5)
	for _, seq := range append(noSeqs(), 1) {
		c.Told(seq, chainOf(9, 4))
	}
	wantAsk(t, c, 10, kinds()[0], 1)
}

// Told says whom to ask, no more: nothing is asked by it, and the time and the tries stay.
func TestToldAsksNobody(t *testing.T) {
	c := asking(t, 1)
	for epoch := range 20 {
		c.Told(1, chainOf(epoch, 4))
		wantPending(t, c, api.Req{Seq: 1, Kind: api.OpCreate}, 1)
		wantTick(t, c, 17, -1)
	}
	wantTick(t, c, 18, 4)
}

func TestToldIsNotKept(t *testing.T) {
	c := asking(t, 1)
	known := chainOf(5, 4, 3)
	c.Told(1, known)
	if known.Epoch != 5 || !slices.Equal(known.Nodes, []int{4, 3}) {
		t.Errorf("it is %v now", known)
	}
	known.Nodes[0] = 2
	wantTick(t, c, 18, 4)
}

// 21.1: Answer

func TestAnswer(t *testing.T) {
	for last := 1; last <= 3; last++ {
		c := asking(t, last)
		want, _ := c.Pending()
		for _, seq := range append(noSeqs(), last-1, last+1) {
			wantAnswer(t, c, seq, false)
		}
		wantPending(t, c, want, 1)
		wantTick(t, c, 18, 2)
		wantAnswer(t, c, last, true)
		wantNone(t, c, last)
	}
}

// The next one is asked by its own time, in its own first try.
func TestAskBehindAnAnswer(t *testing.T) {
	c := asking(t, 1)
	for now := 100; now < 500; now += 100 {
		c.Tick(now)
	}
	wantAnswer(t, c, 1, true)
	wantAsk(t, c, 7, kinds()[0], 1)
	wantTick(t, c, 14, -1)
	wantTick(t, c, 15, 2)
	wantPending(t, c, api.Req{Seq: 2, Kind: api.OpCreate}, 2)
}

// What is answered is the caller's own, and what is handed in is not kept: requests are values.
func TestPendingIsTheSameAgain(t *testing.T) {
	c := asking(t, 1)
	q, _ := c.Pending()
	q.Seq, q.Data = 7, "other"
	wantPending(t, c, api.Req{Seq: 1, Kind: api.OpCreate}, 1)
}

// The document's example.
func TestExample(t *testing.T) {
	c := begun(t, 1, 3)
	wantAsk(t, c, 10, api.Req{Kind: api.OpCreate, Id: 3, Data: "a"}, 1)
	wantError(t, c, 10, api.Req{Kind: api.OpCreate, Id: 3, Data: "a"}, api.ErrState)
}

// Of nil, and of ones that New did not make.

func TestNobody(t *testing.T) {
	for _, c := range []*client.Client{nil, {}} {
		for _, q := range append(never(), kinds()...) {
			for _, now := range append(times(), noTimes()...) {
				wantError(t, c, now, q, api.ErrArg)
			}
		}
		for _, seq := range append(noSeqs(), 1) {
			c.Told(seq, chainOf(1, 0))
		}
		wantNone(t, c, 0)
	}
}

// No call panics, whatever it is given, and each says the same again.
func TestAnythingMayBeHandedIn(t *testing.T) {
	numbers := []int{math.MinInt, -1, 0, 1, 2, 3, 4, 5, 6, 7, 31, 32, 1 << 30, 1<<30 + 1, 1 << 40, math.MaxInt}
	told := func() string {
		var w strings.Builder
		for _, a := range numbers {
			for _, b := range numbers {
				made, e := client.New(a, b)
				fmt.Fprint(&w, made != nil, e)
				for _, x := range numbers {
					for _, c := range []*client.Client{made, begun(t, 1, 5)} {
						fmt.Fprint(&w, c.Tries(), c.Seq())
						w.WriteString(fmt.Sprintln(c.Ask(x, api.Req{Client: a, Seq: b, Kind: x, Id: a, Match: b})))
						c.Told(x, chainOf(a, b, x))
						c.Told(1, api.Chain{Epoch: x, Nodes: []int{a, b}})
						w.WriteString(fmt.Sprintln(c.Tick(b)))
						w.WriteString(fmt.Sprintln(c.Tick(x)))
						w.WriteString(fmt.Sprintln(c.Pending()))
						fmt.Fprintln(&w, c.Answer(a), c.Answer(x), c.Tries(), c.Seq())
					}
				}
			}
		}
		return w.String()
	}
	if told() != told() {
		t.Error("the same calls answer otherwise")
	}
}
