package book_test

import (
	"fmt"
	"math"
	"slices"
	"testing"

	"casebook/book"
)

// filled answers a book in which each of these has ten times itself, wrapped round where it must be.
func filled(keys ...int) *book.Book {
	b := book.New()
	for _, key := range keys {
		b.Put(key, 10*key)
	}
	return b
}

// ends are keys at the edges of Go's own kinds, rising.
func ends() []int {
	return []int{math.MinInt, math.MinInt + 1, -1 << 32, -1 << 31, -1, 0, 1, 1<<31 - 1, 1 << 32, math.MaxInt - 1, math.MaxInt}
}

func told(v int, ok bool) string { return fmt.Sprint(v, " ", ok) }

// wantTold fails unless a number and a yes or no are just these.
func wantTold(t *testing.T, what string, got, want string) {
	t.Helper()
	if got != want {
		t.Errorf("%s: %s; not %s", what, got, want)
	}
}

// wantList fails unless a list is just this.
func wantList(t *testing.T, what string, got []int, want ...int) {
	t.Helper()
	if !slices.Equal(got, want) {
		t.Errorf("%s: %v; not %v", what, got, want)
	}
}

// wantBook fails unless a book has just these keys, each with ten times itself.
func wantBook(t *testing.T, b *book.Book, keys ...int) {
	t.Helper()
	wantList(t, "Keys", b.Keys(), keys...)
	if b.Len() != len(keys) {
		t.Errorf("Len: %d; not %d", b.Len(), len(keys))
	}
	for _, key := range keys {
		wantTold(t, fmt.Sprint("Get of ", key), told(b.Get(key)), told(10*key, true))
	}
}

// 6.1: Put

func TestPutTellsWhatItHad(t *testing.T) {
	b := book.New()
	wantTold(t, "the first", told(b.Put(5, 7)), told(0, false))
	wantTold(t, "the next", told(b.Put(5, 8)), told(7, true))
	wantTold(t, "the one behind", told(b.Put(5, 8)), told(8, true))
	wantTold(t, "another key", told(b.Put(6, 9)), told(0, false))
	wantTold(t, "Get of 5", told(b.Get(5)), told(8, true))
	wantTold(t, "Get of 6", told(b.Get(6)), told(9, true))
	if b.Len() != 2 {
		t.Errorf("Len: %d; not 2", b.Len())
	}
}

// What has 0 has something.
func TestPutOfZero(t *testing.T) {
	b := book.New()
	b.Put(0, 0)
	wantTold(t, "Get", told(b.Get(0)), told(0, true))
	wantTold(t, "Put", told(b.Put(0, 1)), told(0, true))
	wantTold(t, "Put again", told(b.Put(0, 0)), told(1, true))
	wantList(t, "Keys", b.Keys(), 0)
}

func TestPutOfGoneKeyHadNothing(t *testing.T) {
	b := filled(5)
	b.Del(5)
	wantTold(t, "Put", told(b.Put(5, 1)), told(0, false))
	wantTold(t, "Get", told(b.Get(5)), told(1, true))
}

func TestPutAtTheEdges(t *testing.T) {
	b := book.New()
	l := ends()
	for i, key := range l {
		wantTold(t, fmt.Sprint("Put of ", key), told(b.Put(key, l[len(l)-1-i])), told(0, false))
	}
	wantList(t, "Keys", b.Keys(), l...)
	for i, key := range l {
		wantTold(t, fmt.Sprint("Get of ", key), told(b.Get(key)), told(l[len(l)-1-i], true))
	}
}

// 6.1: Get, Del, Len

func TestGetOfNone(t *testing.T) {
	wantTold(t, "of a new book", told(book.New().Get(0)), told(0, false))
	b := filled(3, 5, 9)
	for _, key := range append(ends(), 2, 4, 6, 8, 10) {
		wantTold(t, fmt.Sprint("Get of ", key), told(b.Get(key)), told(0, false))
	}
	wantBook(t, b, 3, 5, 9)
}

func TestDel(t *testing.T) {
	b := filled(5, 3, 9, 7)
	if !b.Del(5) {
		t.Error("Del of 5: false")
	}
	wantBook(t, b, 3, 7, 9)
	wantTold(t, "Get of what is gone", told(b.Get(5)), told(0, false))
	if b.Del(5) {
		t.Error("Del of 5 again: true")
	}
	wantBook(t, b, 3, 7, 9)
}

func TestDelOfNone(t *testing.T) {
	if book.New().Del(0) {
		t.Error("of a new book: true")
	}
	b := filled(3, 5, 9)
	for _, key := range append(ends(), 2, 4, 6, 8, 10) {
		if b.Del(key) {
			t.Errorf("Del of %d: true", key)
		}
	}
	wantBook(t, b, 3, 5, 9)
}

// Each order in which few keys come and go leaves the others as they were.
func TestDelInEachOrder(t *testing.T) {
	keys := []int{1, 2, 3, 4, 5}
	for _, in := range orders(keys) {
		for _, out := range orders(keys) {
			b, left := filled(in...), slices.Clone(keys)
			for _, key := range out {
				if !b.Del(key) {
					t.Fatalf("in %v, out %v: Del of %d: false", in, out, key)
				}
				left = slices.DeleteFunc(left, func(k int) bool { return k == key })
				wantBook(t, b, left...)
			}
		}
	}
}

// orders answers all orders of a list.
func orders(l []int) [][]int {
	if len(l) == 0 {
		return [][]int{nil}
	}
	var all [][]int
	for i, first := range l {
		for _, others := range orders(slices.Delete(slices.Clone(l), i, i+1)) {
			all = append(all, append([]int{first}, others...))
		}
	}
	return all
}

func TestLen(t *testing.T) {
	b := book.New()
	for i, step := range []struct {
		did  func()
		want int
	}{
		{func() {}, 0},
		{func() { b.Put(1, 1) }, 1},
		{func() { b.Put(1, 2) }, 1},
		{func() { b.Put(-1, 2) }, 2},
		{func() { b.Del(0) }, 2},
		{func() { b.Get(0) }, 2},
		{func() { b.Del(1) }, 1},
		{func() { b.Del(1) }, 1},
		{func() { b.Del(-1) }, 0},
		{func() { b.Del(-1) }, 0},
		{func() { b.Put(1, 1) }, 1},
	} {
		if step.did(); b.Len() != step.want {
			t.Errorf("behind step %d: %d; not %d", i, b.Len(), step.want)
		}
	}
}

// 6.2: Keys, From, Back, Least

func TestKeysRise(t *testing.T) {
	wantList(t, "of a new book", book.New().Keys())
	wantBook(t, filled(5, 3, 9), 3, 5, 9)
	wantBook(t, filled(5, -3, 0, -9, 1), -9, -3, 0, 1, 5)
	falling := ends()
	slices.Reverse(falling)
	wantBook(t, filled(falling...), ends()...)
}

func TestExampleOfTheDocument(t *testing.T) {
	wantList(t, "From(4, 1)", filled(5, 3, 9).From(4, 1), 5)
}

func TestFrom(t *testing.T) {
	b := filled(5, 3, 9)
	for _, c := range []struct {
		key, n int
		want   []int
	}{
		{4, 0, nil}, {4, 2, []int{5, 9}}, {4, 3, []int{5, 9}},
		{3, 1, []int{3}}, {3, 2, []int{3, 5}}, {3, 3, []int{3, 5, 9}}, {3, 4, []int{3, 5, 9}},
		{2, 1, []int{3}}, {2, 9, []int{3, 5, 9}}, {5, 9, []int{5, 9}}, {6, 9, []int{9}}, {9, 1, []int{9}}, {9, 9, []int{9}},
		{10, 1, nil}, {10, 9, nil},
		{math.MinInt, 2, []int{3, 5}}, {math.MinInt, math.MaxInt, []int{3, 5, 9}}, {math.MaxInt, math.MaxInt, nil},
		{3, -1, nil}, {3, math.MinInt, nil}, {3, 1 << 32, []int{3, 5, 9}}, {3, 1<<32 + 1, []int{3, 5, 9}}, {3, -1<<32 + 1, nil},
	} {
		wantList(t, fmt.Sprintf("From(%d, %d)", c.key, c.n), b.From(c.key, c.n), c.want...)
	}
	wantBook(t, b, 3, 5, 9)
}

func TestBack(t *testing.T) {
	b := filled(5, 3, 9)
	for _, c := range []struct {
		key, n int
		want   []int
	}{
		{8, 0, nil}, {8, 1, []int{5}}, {8, 2, []int{5, 3}}, {8, 3, []int{5, 3}},
		{9, 1, []int{9}}, {9, 2, []int{9, 5}}, {9, 3, []int{9, 5, 3}}, {9, 4, []int{9, 5, 3}},
		{10, 1, []int{9}}, {10, 9, []int{9, 5, 3}}, {5, 9, []int{5, 3}}, {4, 9, []int{3}}, {3, 1, []int{3}}, {3, 9, []int{3}},
		{2, 1, nil}, {2, 9, nil},
		{math.MaxInt, 2, []int{9, 5}}, {math.MaxInt, math.MaxInt, []int{9, 5, 3}}, {math.MinInt, math.MaxInt, nil},
		{9, -1, nil}, {9, math.MinInt, nil}, {9, 1 << 32, []int{9, 5, 3}}, {9, 1<<32 + 1, []int{9, 5, 3}}, {9, -1<<32 + 1, nil},
	} {
		wantList(t, fmt.Sprintf("Back(%d, %d)", c.key, c.n), b.Back(c.key, c.n), c.want...)
	}
	wantBook(t, b, 3, 5, 9)
}

func TestFromAndBackAtTheEdges(t *testing.T) {
	l := ends()
	b := filled(l...)
	for i, key := range l {
		wantList(t, fmt.Sprint("From ", key), b.From(key, math.MaxInt), l[i:]...)
		falling := slices.Clone(l[:i+1])
		slices.Reverse(falling)
		wantList(t, fmt.Sprint("Back ", key), b.Back(key, math.MaxInt), falling...)
	}
}

func TestLeast(t *testing.T) {
	b := book.New()
	wantTold(t, "of a new book", told(b.Least()), told(0, false))
	for _, step := range []struct{ key, want int }{{5, 5}, {9, 5}, {0, 0}, {-3, -3}, {1, -3}, {math.MaxInt, -3}, {math.MinInt, math.MinInt}} {
		b.Put(step.key, 77)
		wantTold(t, fmt.Sprint("behind ", step.key), told(b.Least()), told(step.want, true))
	}
	for _, want := range []int{-3, 0, 1, 5, 9, math.MaxInt} {
		least, _ := b.Least()
		b.Del(least)
		wantTold(t, fmt.Sprint("without ", least), told(b.Least()), told(want, true))
	}
	b.Del(math.MaxInt)
	wantTold(t, "without all", told(b.Least()), told(0, false))
}

// 6.2: of nil, nothing

func TestOfNil(t *testing.T) {
	var b *book.Book
	wantTold(t, "Put", told(b.Put(1, 2)), told(0, false))
	wantTold(t, "Put again", told(b.Put(1, 2)), told(0, false))
	wantTold(t, "Get", told(b.Get(1)), told(0, false))
	wantTold(t, "Least", told(b.Least()), told(0, false))
	if b.Del(1) || b.Len() != 0 {
		t.Errorf("Del: %v, Len: %d", b.Del(1), b.Len())
	}
	wantList(t, "Keys", b.Keys())
	wantList(t, "From", b.From(0, 9))
	wantList(t, "Back", b.Back(9, 9))
}

// A book that New did not make is empty, and may be used.
func TestZeroBook(t *testing.T) {
	var b book.Book
	wantBook(t, &b)
	wantTold(t, "Least", told(b.Least()), told(0, false))
	b.Put(1, 10)
	wantBook(t, &b, 1)
}

func TestBooksAreApart(t *testing.T) {
	one, two := filled(1, 2), filled(2, 3)
	one.Del(2)
	two.Put(2, 20)
	wantBook(t, one, 1)
	wantBook(t, two, 2, 3)
}

func TestAnswersAreTheCallersOwn(t *testing.T) {
	b := filled(3, 5, 9)
	lists := [][]int{b.Keys(), b.Keys(), b.From(0, 9), b.From(0, 9), b.Back(9, 9), b.Back(9, 9)}
	for i, l := range lists {
		for at := range l {
			l[at] = -1
		}
		_ = append(l[:0], -2, -2)
		for _, other := range lists[i+1:] {
			if slices.Min(other) < 0 {
				t.Errorf("list %d is shared", i)
			}
		}
		wantBook(t, b, 3, 5, 9)
	}
}

func TestAnswersStayBehindChanges(t *testing.T) {
	b := filled(3, 5, 9)
	keys, from, back := b.Keys(), b.From(4, 9), b.Back(6, 9)
	b.Del(5)
	b.Put(4, 40)
	wantList(t, "Keys", keys, 3, 5, 9)
	wantList(t, "From", from, 5, 9)
	wantList(t, "Back", back, 5, 3)
}
