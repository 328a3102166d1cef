package client

import (
	"testing"

	"casebook/api"
)

// 21.1: numbers end with MaxSeq. It takes too long to ask so often, so this begins near the end.
func TestNumbersEnd(t *testing.T) {
	c, _ := New(1, 3)
	c.seq = api.MaxSeq - 1
	q := api.Req{Kind: api.OpRead}
	if node, e := c.Ask(10, q); node != 1 || e != api.OK || c.Seq() != api.MaxSeq {
		t.Errorf("the last one: %d, %d; Seq: %d", node, e, c.Seq())
	}
	wantNoMore := func() {
		t.Helper()
		if node, e := c.Ask(10, q); node != 0 || e != api.ErrArg || c.Seq() != api.MaxSeq {
			t.Errorf("one behind it: %d, %d; Seq: %d", node, e, c.Seq())
		}
	}
	wantNoMore() // also while one is pending
	if got, ok := c.Pending(); got.Seq != api.MaxSeq || !ok || !c.Answer(api.MaxSeq) {
		t.Errorf("Pending: %v, %t", got, ok)
	}
	wantNoMore()
	if _, ok := c.Pending(); ok || c.Tries() != 0 {
		t.Error("one is pending")
	}
}
