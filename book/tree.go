package book

import (
	"cmp"
	"iter"
)

// tree is a table in the order of its keys. Its branches stay nearly alike, so that no order in which keys come makes a call slow.
type tree[K cmp.Ordered, V any] struct {
	top  *node[K, V]
	size int
}

// node is a key with what it has; a nil one is a tree of none.
type node[K cmp.Ordered, V any] struct {
	key      K
	v        V
	branches [2]*node[K, V]
	height   int
}

// The branches of a node: of keys below its own, of keys above it; the other one of a side is 1-side.
const (
	below = 0
	above = 1
)

func (t *tree[K, V]) put(key K, v V) (V, bool) {
	var had V
	if n := t.top.find(key); n != nil {
		had, n.v = n.v, v
		return had, true
	}
	t.top = t.top.with(key, v)
	t.size++
	return had, false
}

func (t *tree[K, V]) get(key K) (V, bool) {
	var none V
	if n := t.top.find(key); n != nil {
		return n.v, true
	}
	return none, false
}

func (t *tree[K, V]) del(key K) bool {
	if t.top.find(key) == nil {
		return false
	}
	t.top = t.top.without(key)
	t.size--
	return true
}

// from goes over the keys that are not below a key, rising.
func (t *tree[K, V]) from(key K) iter.Seq[K] {
	return func(yield func(K) bool) { t.top.rise(key, yield) }
}

// back goes over the keys that are not above a key, falling.
func (t *tree[K, V]) back(key K) iter.Seq[K] {
	return func(yield func(K) bool) { t.top.fall(key, yield) }
}

func (n *node[K, V]) find(key K) *node[K, V] {
	for n != nil && n.key != key {
		n = n.branches[n.side(key)]
	}
	return n
}

// side tells in which branch a key is that isn't the node's own.
func (n *node[K, V]) side(key K) int {
	if key < n.key {
		return below
	}
	return above
}

// with answers the tree with a key that it does not have.
func (n *node[K, V]) with(key K, v V) *node[K, V] {
	if n == nil {
		return &node[K, V]{key: key, v: v, height: 1}
	}
	side := n.side(key)
	n.branches[side] = n.branches[side].with(key, v)
	return n.even()
}

// without answers the tree without a key that it has.
func (n *node[K, V]) without(key K) *node[K, V] {
	side := n.side(key)
	if key == n.key {
		if n.branches[below] == nil {
			return n.branches[above]
		}
		next := n.branches[below].last()
		key, n.key, n.v = next.key, next.key, next.v
		side = below
	}
	n.branches[side] = n.branches[side].without(key)
	return n.even()
}

func (n *node[K, V]) last() *node[K, V] {
	for n.branches[above] != nil {
		n = n.branches[above]
	}
	return n
}

// rise tells false if it was told to stop.
func (n *node[K, V]) rise(key K, yield func(K) bool) bool {
	if n == nil {
		return true
	}
	if n.key >= key && !(n.branches[below].rise(key, yield) && yield(n.key)) {
		return false
	}
	return n.branches[above].rise(key, yield)
}

// fall tells false if it was told to stop.
func (n *node[K, V]) fall(key K, yield func(K) bool) bool {
	if n == nil {
		return true
	}
	if n.key <= key && !(n.branches[above].fall(key, yield) && yield(n.key)) {
		return false
	}
	return n.branches[below].fall(key, yield)
}

func (n *node[K, V]) high() int {
	if n == nil {
		return 0
	}
	return n.height
}

// even answers the tree with branches whose heights differ by at most one, if they differed by at most two and each was even itself.
func (n *node[K, V]) even() *node[K, V] {
	for side, high := range n.branches {
		if high.high() <= n.branches[1-side].high()+1 {
			continue
		}
		if high.branches[1-side].high() > high.branches[side].high() {
			n.branches[side] = high.raise(1 - side)
		}
		return n.raise(side)
	}
	n.measure()
	return n
}

// raise answers the tree with the branch of a side as its top.
func (n *node[K, V]) raise(side int) *node[K, V] {
	top := n.branches[side]
	n.branches[side], top.branches[1-side] = top.branches[1-side], n
	n.measure()
	top.measure()
	return top
}

func (n *node[K, V]) measure() {
	n.height = 1 + max(n.branches[below].high(), n.branches[above].high())
}
