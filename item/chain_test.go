package item_test

import (
	"math"
	"slices"
	"testing"

	"casebook/api"
	"casebook/item"
	"casebook/pack"
)

// chains are chains that may be.
func chains() []api.Chain {
	return []api.Chain{
		{Epoch: 0, Nodes: []int{0}},
		{Epoch: 1, Nodes: []int{0, 1, 2}},
		{Epoch: 2, Nodes: []int{4}},
		{Epoch: 300, Nodes: []int{4, 0, 3, 1, 2}},
		{Epoch: api.MaxEpoch, Nodes: []int{0, 1, 2, 3, 4}},
		{Epoch: api.MaxEpoch - 1, Nodes: []int{2, 1}},
	}
}

// noChains are chains that may not be.
func noChains() []api.Chain {
	l := []api.Chain{
		{},
		{Epoch: 1, Nodes: []int{}},
		{Epoch: 1, Nodes: []int{0, 1, 2, 3, 4, 0}},
		{Epoch: 1, Nodes: make([]int, 1000)},
		{Epoch: 1, Nodes: []int{0, 0}},
		{Epoch: 1, Nodes: []int{3, 1, 2, 3}},
		{Epoch: 1, Nodes: []int{0, 1, 2, 4, 4}},
	}
	for _, n := range []int{math.MinInt, -1, api.MaxEpoch + 1, math.MaxInt} {
		l = append(l, api.Chain{Epoch: n, Nodes: []int{0, 1}})
	}
	for _, n := range []int{math.MinInt, -1, api.MaxNodes, math.MaxInt} {
		l = append(l, api.Chain{Epoch: 1, Nodes: []int{n}}, api.Chain{Epoch: 1, Nodes: []int{1, n}})
	}
	return l
}

func sameChain(a, b api.Chain) bool { return a.Epoch == b.Epoch && slices.Equal(a.Nodes, b.Nodes) }

// plainChain answers the bytes of a chain, whether it may be or not.
func plainChain(c api.Chain) []byte {
	var w pack.Writer
	w.Num(uint64(c.Epoch))
	w.Num(uint64(len(c.Nodes)))
	for _, n := range c.Nodes {
		w.Num(uint64(n))
	}
	return w.Bytes()
}

func mustBeNoChain(t *testing.T, name string, b []byte) {
	t.Helper()
	if c, e := item.GetChain(b); e != api.ErrBad || c.Epoch != 0 || len(c.Nodes) != 0 {
		t.Errorf("%s: GetChain of %x is %v, %d", name, b, c, e)
	}
}

// 2.3

func TestMayChain(t *testing.T) {
	for _, c := range chains() {
		if !item.MayChain(c) {
			t.Errorf("%v may be", c)
		}
	}
	for _, c := range noChains() {
		if item.MayChain(c) {
			t.Errorf("%v may not be", c)
		}
	}
}

func TestPutChainBytes(t *testing.T) {
	for _, c := range []struct {
		chain api.Chain
		want  string
	}{
		{api.Chain{Nodes: []int{0}}, "\x00\x01\x00"},
		{api.Chain{Epoch: 2, Nodes: []int{0, 2, 1}}, "\x02\x03\x00\x02\x01"},
		{api.Chain{Epoch: 300, Nodes: []int{4, 3, 2, 1, 0}}, "\xac\x02\x05\x04\x03\x02\x01\x00"},
		{api.Chain{Epoch: 1 << 30, Nodes: []int{1, 0}}, "\x80\x80\x80\x80\x04\x02\x01\x00"},
	} {
		if b, e := item.PutChain(c.chain); string(b) != c.want || e != api.OK {
			t.Errorf("PutChain of %v: %x, %d", c.chain, b, e)
		}
	}
}

func TestPutChainOfNone(t *testing.T) {
	for _, c := range noChains() {
		if b, e := item.PutChain(c); len(b) != 0 || e != api.ErrArg {
			t.Errorf("PutChain of %v: %x, %d", c, b, e)
		}
	}
}

func TestGetChainOfBytes(t *testing.T) {
	c, e := item.GetChain([]byte("\xac\x02\x03\x04\x00\x02"))
	if !sameChain(c, api.Chain{Epoch: 300, Nodes: []int{4, 0, 2}}) || e != api.OK {
		t.Errorf("%v, %d", c, e)
	}
}

func TestGetChainOfWhatIsNone(t *testing.T) {
	mustBeNoChain(t, "nil", nil)
	mustBeNoChain(t, "empty", []byte{})
	for _, c := range noChains() {
		mustBeNoChain(t, "a chain that may not be", plainChain(c))
	}
	for _, c := range chains() {
		b := plainChain(c)
		for n := range b {
			mustBeNoChain(t, "cut", b[:n])
		}
		mustBeNoChain(t, "with a byte more", append(b, 0))
	}
	mustBeNoChain(t, "a great length", []byte("\x01\xff\xff\xff\xff\xff\xff\xff\xff\xff\x01\x00"))
	mustBeNoChain(t, "a length longer than it must be", []byte("\x01\x81\x00\x00"))
}

func TestGetChainTakesOnlyWhatPutChainMakes(t *testing.T) {
	for _, c := range chains() {
		mustTakeOnlyWhatIsPut(t, plainChain(c), item.GetChain, item.PutChain)
	}
}

// 2.4

func TestChainsComeBack(t *testing.T) {
	for _, c := range chains() {
		before := slices.Clone(c.Nodes)
		b, e := item.PutChain(c)
		if e != api.OK || !slices.Equal(c.Nodes, before) {
			t.Errorf("PutChain of %v: %d", c, e)
		}
		got, e := item.GetChain(b)
		clear(b)
		if !sameChain(got, c) || e != api.OK {
			t.Errorf("%v comes back as %v, %d", c, got, e)
		}
	}
}

// all the orders of up to five nodes
func TestAllChainsComeBack(t *testing.T) {
	count := 0
	var grow func(l []int)
	grow = func(l []int) {
		for n := range api.MaxNodes {
			if slices.Contains(l, n) {
				continue
			}
			more := append(slices.Clone(l), n)
			b, _ := item.PutChain(api.Chain{Epoch: count, Nodes: more})
			if got, e := item.GetChain(b); e != api.OK || got.Epoch != count || !slices.Equal(got.Nodes, more) {
				t.Errorf("%v comes back as %v, %d", more, got, e)
			}
			count++
			grow(more)
		}
	}
	grow(nil)
	if count != 325 {
		t.Errorf("%d chains", count)
	}
}
