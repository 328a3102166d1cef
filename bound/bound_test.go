package bound_test

import (
	"fmt"
	"math"
	"strings"
	"testing"

	"casebook/api"
	"casebook/bound"
	"casebook/disk"
	"casebook/item"
	"casebook/wal"
)

// confs are all that may be.
func confs() []api.Conf {
	var l []api.Conf
	for nodes := 1; nodes <= 5; nodes++ {
		for clients := 1; clients <= 4; clients++ {
			for quota := 1; quota <= 100; quota++ {
				l = append(l, api.Conf{Nodes: nodes, Clients: clients, Quota: quota})
			}
		}
	}
	return l
}

// wrong are numbers that may not be, of something of which there are most at most.
func wrong(most int) []int {
	return []int{math.MinInt, math.MinInt + 1, -1 << 32, -most, -2, -1, 0, most + 1, most + 2, 2 * most, 1 << 32, 1<<32 + 1, math.MaxInt - 1, math.MaxInt}
}

// noConfs are some that may not be.
func noConfs() []api.Conf {
	l := []api.Conf{{}}
	for _, nodes := range []int{1, 3, 5} {
		for _, clients := range []int{1, 2, 4} {
			for _, quota := range []int{1, 50, 100} {
				for _, n := range wrong(5) {
					l = append(l, api.Conf{Nodes: n, Clients: clients, Quota: quota})
				}
				for _, n := range wrong(4) {
					l = append(l, api.Conf{Nodes: nodes, Clients: n, Quota: quota})
				}
				for _, n := range wrong(100) {
					l = append(l, api.Conf{Nodes: nodes, Clients: clients, Quota: n}, api.Conf{Nodes: n, Clients: n, Quota: n})
				}
			}
		}
	}
	// what one part may be is not what another one may be
	return append(l, api.Conf{Nodes: 5, Clients: 5, Quota: 100}, api.Conf{Nodes: 100, Clients: 4, Quota: 5}, api.Conf{Nodes: 4, Clients: 100, Quota: 5})
}

// counts are how many may be asked, and as how many those count.
func counts() map[int]int {
	return map[int]int{
		math.MinInt: 0, -1 << 32: 0, -100_000: 0, -2: 0, -1: 0, 0: 0, 1: 1, 2: 2, 10: 10, 1000: 1000, 65_536: 65_536, 99_999: 99_999, 100_000: 100_000,
		100_001: 100_000, 1_000_000: 100_000, 1 << 32: 100_000, 1<<32 + 1: 100_000, math.MaxInt: 100_000,
	}
}

// 24.1: May

func TestMay(t *testing.T) {
	for _, c := range confs() {
		if !bound.May(c) {
			t.Errorf("May(%v): false", c)
		}
	}
}

func TestMayOfWhatMayNotBe(t *testing.T) {
	for _, c := range noConfs() {
		if bound.May(c) {
			t.Errorf("May(%v): true", c)
		}
	}
}

// 24.1: Rounds

func TestRounds(t *testing.T) {
	for _, c := range confs() {
		for asked, count := range counts() {
			if got, want := bound.Rounds(c, asked), 1000+600*c.Nodes+20*c.Nodes*count; got != want {
				t.Errorf("Rounds(%v, %d): %d; not %d", c, asked, got, want)
			}
		}
	}
}

// Some that were worked out by hand; the second one is the document's example.
func TestSomeRounds(t *testing.T) {
	for _, x := range []struct{ nodes, asked, want int }{
		{1, 0, 1_600}, {3, 10, 3_400}, {5, 0, 4_000}, {5, 1, 4_100}, {2, 1_000, 42_200}, {5, 100_000, 10_004_000},
	} {
		if got := bound.Rounds(api.Conf{Nodes: x.nodes, Clients: 2, Quota: 7}, x.asked); got != x.want {
			t.Errorf("Rounds of %d nodes, %d asked: %d; not %d", x.nodes, x.asked, got, x.want)
		}
	}
}

// 24.1: Bytes

func TestBytes(t *testing.T) {
	for _, c := range confs() {
		for asked, count := range counts() {
			if got, want := bound.Bytes(c, asked), 130*count; got != want {
				t.Errorf("Bytes(%v, %d): %d; not %d", c, asked, got, want)
			}
		}
	}
}

func TestSomeBytes(t *testing.T) {
	for asked, want := range map[int]int{-1: 0, 0: 0, 1: 130, 10: 1_300, 100_000: 13_000_000, 100_001: 13_000_000} {
		if got := bound.Bytes(api.Conf{Nodes: 5, Clients: 2, Quota: 7}, asked); got != want {
			t.Errorf("Bytes of %d asked: %d; not %d", asked, got, want)
		}
	}
}

// 24.1: nothing of what may not be, however many are asked

func TestNothingOfWhatMayNotBe(t *testing.T) {
	for _, c := range noConfs() {
		for asked := range counts() {
			if rounds, bytes := bound.Rounds(c, asked), bound.Bytes(c, asked); rounds != 0 || bytes != 0 {
				t.Errorf("%v, %d asked: %d rounds, %d bytes", c, asked, rounds, bytes)
			}
		}
	}
}

// The greatest requests, each with a number of eight bytes in a frame of its own, take no more bytes than that.
func TestALogHasNoMoreBytes(t *testing.T) {
	greatest := api.Req{Client: api.MaxClients - 1, Kind: api.OpUpdate, Id: api.MaxId, Match: api.MaxQuota, Data: strings.Repeat("d", api.MaxData)}
	d := disk.New()
	for n := range 1000 {
		greatest.Seq = api.MaxSeq - 1000 + n
		b, e := item.PutReq(greatest)
		if e != api.OK || wal.Put(d, append(make([]byte, 8), b...)) != api.OK {
			t.Fatalf("PutReq: %d", e)
		}
		if most := bound.Bytes(api.Conf{Nodes: 1, Clients: 4, Quota: 100}, n+1); d.Len() > most {
			t.Fatalf("%d requests are %d bytes, more than %d", n+1, d.Len(), most)
		}
	}
}

// Each says the same again, whatever it is given.
func TestTheSameAgain(t *testing.T) {
	said := func() string {
		var w strings.Builder
		for _, c := range append(noConfs(), confs()[:50]...) {
			for _, asked := range wrong(100_000) {
				fmt.Fprintln(&w, c, asked, bound.May(c), bound.Rounds(c, asked), bound.Bytes(c, asked))
			}
		}
		return w.String()
	}
	if said() != said() {
		t.Error("the same calls answer otherwise")
	}
}
