package chain

import (
	"iter"
	"slices"

	"casebook/api"
)

const nobody = -1

// spot is where a node stands: between who stands above it and who stands below it.
type spot struct{ above, node, below int }

// spots goes over the nodes of a chain from head to tail.
func spots(c api.Chain) iter.Seq[spot] {
	return func(yield func(s spot) bool) {
		for k, node := range c.Nodes {
			if !yield(spot{above: at(c, k-1), node: node, below: at(c, k+1)}) {
				return
			}
		}
	}
}

// find answers where a node stands, the first time from the head on.
func find(c api.Chain, node int) (spot, bool) {
	for s := range spots(c) {
		if s.node == node {
			return s, true
		}
	}
	return spot{above: nobody, node: node, below: nobody}, false
}

// at answers who stands at a place.
func at(c api.Chain, k int) int {
	if k < 0 || k >= len(c.Nodes) {
		return nobody
	}
	return c.Nodes[k]
}

// turns answers a call that tells of one node after the other if it comes in its turn: below all for which it told so.
func turns(c api.Chain) func(node int) bool {
	left := c.Nodes
	return func(node int) bool {
		k := slices.Index(left, node)
		if k < 0 {
			return false
		}
		left = left[k+1:]
		return true
	}
}
