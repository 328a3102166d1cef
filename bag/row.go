package bag

import "slices"

// row is things that stand one behind the other, at places from 0 on.
type row[T any] struct{ things []T }

func (r *row[T]) size() int { return len(r.things) }

// add puts a thing behind all, and answers its place.
func (r *row[T]) add(x T) int {
	r.things = append(r.things, x)
	return len(r.things) - 1
}

// at answers the thing at a place that the row has.
func (r *row[T]) at(k int) T { return r.things[k] }

// out takes out the thing at a place that the row has, and answers it.
func (r *row[T]) out(k int) T {
	x := r.things[k]
	// The shorter side moves: most things are taken at the beginning, and of a long row all others would move each time.
	if k < len(r.things)/2 {
		copy(r.things[1:], r.things[:k])
		clear(r.things[:1]) // what is out is not kept
		r.things = r.things[1:]
	} else {
		r.things = slices.Delete(r.things, k, k+1)
	}
	return x
}

// places answers where those things stand that are such, rising.
func (r *row[T]) places(such func(x T) bool) []int {
	var l []int
	for k, x := range r.things {
		if such(x) {
			l = append(l, k)
		}
	}
	return l
}

// lose takes out all things that are such, and answers how many they were.
func (r *row[T]) lose(such func(x T) bool) int {
	before := len(r.things)
	r.things = slices.DeleteFunc(r.things, such)
	return before - len(r.things)
}
