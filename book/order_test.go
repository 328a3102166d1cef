package book_test

import (
	"fmt"
	"math"
	"slices"
	"testing"

	"casebook/book"
)

// numbers answers a call that answers numbers from 0 to below n, the same ones in each run.
func numbers() func(n int) int {
	state := uint64(1)
	return func(n int) int {
		state = state*6364136223846793005 + 1442695040888963407
		return int((state >> 33) % uint64(n))
	}
}

// model is a book told otherwise: a map, sorted where an order is asked for.
type model map[int]int

func (m model) put(key, v int) (int, bool) {
	had, ok := m[key]
	m[key] = v
	return had, ok
}

func (m model) get(key int) (int, bool) {
	v, ok := m[key]
	return v, ok
}

func (m model) del(key int) bool {
	_, ok := m[key]
	delete(m, key)
	return ok
}

// keys answers those that are let in, rising.
func (m model) keys(in func(key int) bool) []int {
	var l []int
	for key := range m {
		if in(key) {
			l = append(l, key)
		}
	}
	slices.Sort(l)
	return l
}

func (m model) from(key, n int) []int {
	l := m.keys(func(k int) bool { return k >= key })
	return l[:max(0, min(n, len(l)))]
}

func (m model) back(key, n int) []int {
	l := m.keys(func(k int) bool { return k <= key })
	slices.Reverse(l)
	return l[:max(0, min(n, len(l)))]
}

func (m model) least() (int, bool) {
	for _, key := range m.from(math.MinInt, 1) {
		return key, true
	}
	return 0, false
}

// wantModel fails unless a book is seen as its model is.
func wantModel(t *testing.T, b *book.Book, m model, key, n int) {
	t.Helper()
	wantList(t, "Keys", b.Keys(), m.from(math.MinInt, len(m))...)
	wantList(t, fmt.Sprintf("From(%d, %d)", key, n), b.From(key, n), m.from(key, n)...)
	wantList(t, fmt.Sprintf("Back(%d, %d)", key, n), b.Back(key, n), m.back(key, n)...)
	wantTold(t, "Least", told(b.Least()), told(m.least()))
	wantTold(t, fmt.Sprint("Get of ", key), told(b.Get(key)), told(m.get(key)))
	if b.Len() != len(m) {
		t.Errorf("Len: %d; not %d", b.Len(), len(m))
	}
}

// 6.1 to 6.3, behind each step of scripts in which many keys come, and many go.
func TestBookIsAsItsModel(t *testing.T) {
	next := numbers()
	for _, keys := range []int{1, 3, 10, 50, 200} {
		b, m := book.New(), model{}
		for i := range 2000 {
			key, v := next(keys)-keys/2, next(1000)
			// Times at which more keys come than go, and times at which more go, so that books grow and shrink.
			if next(10) < 3+4*(i/300%2) {
				wantTold(t, fmt.Sprint("Del of ", key), fmt.Sprint(b.Del(key)), fmt.Sprint(m.del(key)))
			} else {
				wantTold(t, fmt.Sprint("Put of ", key), told(b.Put(key, v)), told(m.put(key, v)))
			}
			wantModel(t, b, m, next(keys+4)-keys/2-2, next(keys+4)-2)
			if t.Failed() {
				t.Fatalf("%d keys, step %d", keys, i)
			}
		}
	}
}

// 6.3

func TestGoneOverInOrderFromEachPlace(t *testing.T) {
	const many = 70
	b := book.New()
	next := numbers()
	for b.Len() < many {
		b.Put(2*next(many), 0)
	}
	for key := -1; key <= 2*many; key++ {
		up, down := (key+1)/2, key/2
		if key < 0 {
			up, down = 0, -1
		}
		for _, n := range []int{0, 1, 2, 7, many - 1, many, many + 1} {
			wantList(t, fmt.Sprintf("From(%d, %d)", key, n), b.From(key, n), evens(up, min(many-1, up+n-1))...)
			falling := evens(max(0, min(down, many-1)-n+1), min(down, many-1))
			slices.Reverse(falling)
			wantList(t, fmt.Sprintf("Back(%d, %d)", key, n), b.Back(key, n), falling...)
		}
	}
}

// evens answers twice each number from one to another.
func evens(low, high int) []int {
	var l []int
	for i := low; i <= high; i++ {
		l = append(l, 2*i)
	}
	return l
}

// A long book that is left at its first places takes no time: it would take hours if all of it were gone over each time.
func TestLeftAtAnyPlace(t *testing.T) {
	const many = 1 << 17
	b := book.New()
	for key := range many {
		b.Put(key, key)
	}
	for key := range many {
		wantList(t, "From", b.From(key, 2), []int{key, key + 1}[:min(2, many-key)]...)
		wantList(t, "Back", b.Back(key, 2), []int{key, key - 1}[:min(2, key+1)]...)
		wantTold(t, "Least", told(b.Least()), told(0, true))
		if t.Failed() {
			t.Fatal(key)
		}
	}
}

// The first ones go, and others come behind all.
func TestOneEndGoesTheOtherGrows(t *testing.T) {
	const many = 1 << 12
	b := filled(evens(0, many-1)...)
	for i := range 3 * many {
		least, _ := b.Least()
		if least != 2*i || !b.Del(least) {
			t.Fatalf("the least is %d; not %d", least, 2*i)
		}
		b.Put(2*(i+many), 20*(i+many))
		wantList(t, "From", b.From(least, 1), 2*(i+1))
		wantList(t, "Back", b.Back(math.MaxInt, 1), 2*(i+many))
	}
	wantBook(t, b, evens(3*many, 4*many-1)...)
}
