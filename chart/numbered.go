package chart

import (
	"iter"

	"casebook/api"
)

// numbered goes over versions from the first one on, each with its number.
func numbered(l []api.Version) iter.Seq2[int, api.Version] {
	return func(yield func(number int, v api.Version) bool) {
		for i, v := range l {
			if !yield(i+1, v) {
				return
			}
		}
	}
}
