package store

import (
	"iter"

	"casebook/api"
)

// table has a list of things for each id.
type table[T any] [api.MaxId + 1][]T

// of answers the list of an id: none, if there is no such id.
func (t *table[T]) of(id int) []T {
	if id < 0 || id >= len(t) {
		return nil
	}
	return t[id]
}

// inOrder goes over the ids that have things, rising, and their lists.
func (t *table[T]) inOrder() iter.Seq2[int, []T] {
	return func(yield func(int, []T) bool) {
		for id, l := range t {
			if len(l) > 0 && !yield(id, l) {
				return
			}
		}
	}
}
