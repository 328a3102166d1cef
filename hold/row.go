package hold

// many is how many things of a row are kept: its last ones.
const many = 4

// row is of things that are numbered from 1 on, each in the place of the one that is many ahead of it.
type row[T any] struct {
	n      int // how many things there were
	places [many]T
}

// add puts a thing behind all, and answers its number.
func (r *row[T]) add(x T) int {
	r.places[r.n%many] = x
	r.n++
	return r.n
}

// at answers the thing of a number: none, if it is not kept.
func (r *row[T]) at(number int) *T {
	if number < 1 || number > r.n || number <= r.n-many {
		return nil
	}
	return &r.places[(number-1)%many]
}

// last answers the thing that was added last, if there is one.
func (r *row[T]) last() *T { return r.at(r.n) }

// kept answers the things that are kept, where they stand, in no order.
func (r *row[T]) kept() []T { return r.places[:min(r.n, many)] }
