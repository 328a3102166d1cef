package bag_test

import (
	"bytes"
	"fmt"
	"math"
	"runtime"
	"slices"
	"strings"
	"testing"

	"casebook/api"
	"casebook/bag"
)

// letter is a message as tests tell it.
type letter struct {
	from, to int
	text     string
}

// short tells a letter in few words, however long it is.
func (m letter) short() string {
	if len(m.text) > 20 {
		return fmt.Sprintf("%d to %d: %.10q.. (%d bytes)", m.from, m.to, m.text, len(m.text))
	}
	return fmt.Sprintf("%d to %d: %q", m.from, m.to, m.text)
}

// letters answers so many, no two alike, to 0, 1, 2, 0 and so on.
func letters(n int) []letter {
	var l []letter
	for i := range n {
		l = append(l, letter{10 + i, i % 3, strings.Repeat(string(rune('a'+i)), i)})
	}
	return l
}

// holding answers a bag with these.
func holding(l ...letter) *bag.Bag {
	b := bag.New()
	for _, m := range l {
		b.Add(m.from, m.to, []byte(m.text))
	}
	return b
}

// without answers the others.
func without(l []letter, k int) []letter { return slices.Delete(slices.Clone(l), k, k+1) }

// noPlaces are places that a row of so many has not.
func noPlaces(n int) []int {
	return []int{-1, -2, -n, -n - 1, n, n + 1, 2*n + 1, math.MinInt, math.MinInt + 1, -1 << 32, -1<<32 + 1, -1 << 31, 1<<31 - 1, 1 << 31, 1 << 32, 1<<32 + 1, math.MaxInt - 1, math.MaxInt}
}

// ends are numbers at the edges of Go's own kinds.
func ends() []int {
	return []int{math.MinInt, math.MinInt + 1, -1<<32 + 1, -1 << 31, -1, 0, 1, 1<<31 - 1, 1 << 32, 1<<32 + 1, math.MaxInt - 1, math.MaxInt}
}

// wantNumber fails unless a number is just this.
func wantNumber(t *testing.T, what string, got, want int) {
	t.Helper()
	if got != want {
		t.Errorf("%s: %d; not %d", what, got, want)
	}
}

// wantList fails unless a list is just this.
func wantList(t *testing.T, what string, got []int, want ...int) {
	t.Helper()
	if !slices.Equal(got, want) {
		t.Errorf("%s: %v; not %v", what, got, want)
	}
}

// wantTake fails unless Take tells just this.
func wantTake(t *testing.T, what string, b *bag.Bag, k int, want letter) {
	t.Helper()
	from, to, m, e := b.Take(k)
	if got := (letter{from, to, string(m)}); got != want || e != api.OK {
		t.Errorf("%s: Take(%d): %s, %d; not %s", what, k, got.short(), e, want.short())
	}
}

// wantNone fails unless Take, Double and Drop of a place tell that there is no such thing, and nothing else.
func wantNone(t *testing.T, what string, b *bag.Bag, k int) {
	t.Helper()
	if from, to, m, e := b.Take(k); from != 0 || to != 0 || len(m) != 0 || e != api.ErrNone {
		t.Errorf("%s: Take(%d): %d, %d, %q, %d", what, k, from, to, m, e)
	}
	wantNumber(t, fmt.Sprintf("%s: Double(%d)", what, k), b.Double(k), api.ErrNone)
	wantNumber(t, fmt.Sprintf("%s: Drop(%d)", what, k), b.Drop(k), api.ErrNone)
}

// whereTo answers the places of those to one.
func whereTo(l []letter, who int) []int {
	var places []int
	for k, m := range l {
		if m.to == who {
			places = append(places, k)
		}
	}
	return places
}

// wantBag fails unless a bag has just these, in their order. It is as it was then: what is looked at is a second one of each, taken out again.
func wantBag(t *testing.T, what string, b *bag.Bag, l ...letter) {
	t.Helper()
	wantNumber(t, what+": Len", b.Len(), len(l))
	whom := ends()
	for _, m := range l {
		whom = append(whom, m.from, m.to)
	}
	for _, who := range whom {
		wantList(t, fmt.Sprintf("%s: To(%d)", what, who), b.To(who), whereTo(l, who)...)
	}
	for k, m := range l {
		wantNumber(t, fmt.Sprintf("%s: Double(%d)", what, k), b.Double(k), api.OK)
		wantTake(t, what, b, len(l), m)
	}
	wantNumber(t, what+": Len behind that", b.Len(), len(l))
}

// wantLeft is wantBag of a bag that is not asked any more: all are taken out, from the beginning on.
func wantLeft(t *testing.T, what string, b *bag.Bag, l ...letter) {
	t.Helper()
	wantNumber(t, what+": Len", b.Len(), len(l))
	for i, m := range l {
		wantTake(t, fmt.Sprint(what, ": the place ", i), b, 0, m)
	}
	wantNumber(t, what+": Len without all", b.Len(), 0)
	wantNone(t, what+", without all", b, 0)
}

// 9.1: New, Add

func TestNewHasNothing(t *testing.T) {
	b := bag.New()
	if b == nil {
		t.Fatal("nil")
	}
	wantBag(t, "new", b)
	for _, k := range noPlaces(0) {
		wantNone(t, "new", b, k)
	}
	for _, who := range ends() {
		wantNumber(t, "new: Lose", b.Lose(who), 0)
	}
	wantLeft(t, "new", b)
}

func TestAddTellsItsPlace(t *testing.T) {
	b := bag.New()
	l := letters(9)
	for k, m := range l {
		wantNumber(t, "Add", b.Add(m.from, m.to, []byte(m.text)), k)
		wantBag(t, fmt.Sprint(k+1), b, l[:k+1]...)
	}
	wantLeft(t, "all", b, l...)
}

// What is out leaves no place behind.
func TestAddBehindWhatWentOut(t *testing.T) {
	for name, out := range map[string]func(b *bag.Bag){
		"Take of the first":   func(b *bag.Bag) { b.Take(0) },
		"Take of the last":    func(b *bag.Bag) { b.Take(4) },
		"Drop":                func(b *bag.Bag) { b.Drop(2) },
		"Lose of two":         func(b *bag.Bag) { b.Lose(1) },
		"Double, Take, Take":  func(b *bag.Bag) { b.Double(3); b.Take(0); b.Take(0) },
		"Take of each":        func(b *bag.Bag) { b.Take(0); b.Take(0); b.Take(0); b.Take(0); b.Take(0) },
		"Lose of each":        func(b *bag.Bag) { b.Lose(0); b.Lose(1); b.Lose(2) },
		"Double":              func(b *bag.Bag) { b.Double(0) },
		"Double of no place":  func(b *bag.Bag) { b.Double(5) },
		"Drop of no place":    func(b *bag.Bag) { b.Drop(5) },
		"Lose of nobody's":    func(b *bag.Bag) { b.Lose(3) },
		"Lose of one's own":   func(b *bag.Bag) { b.Lose(10) },
		"Take of no place":    func(b *bag.Bag) { b.Take(-1) },
		"asking for a place":  func(b *bag.Bag) { b.To(1) },
		"asking for how many": func(b *bag.Bag) { b.Len() },
	} {
		b := holding(letters(5)...)
		out(b)
		n := b.Len()
		wantNumber(t, name+", Add", b.Add(7, 1, []byte("new")), n)
		wantNumber(t, name+", Len", b.Len(), n+1)
		wantNumber(t, name+", Add again", b.Add(8, 2, []byte("newer")), n+1)
		wantTake(t, name, b, n, letter{7, 1, "new"})
		wantTake(t, name, b, n, letter{8, 2, "newer"})
	}
}

func TestAddOfAnyNumbers(t *testing.T) {
	b := bag.New()
	var l []letter
	for i, from := range ends() {
		for j, to := range ends() {
			wantNumber(t, "Add", b.Add(from, to, []byte{byte(i), byte(j)}), len(l))
			l = append(l, letter{from, to, string([]byte{byte(i), byte(j)})})
		}
	}
	wantBag(t, "each number to each", b, l...)
	wantLeft(t, "each number to each", b, l...)
}

func TestAddOfNoBytes(t *testing.T) {
	for name, m := range map[string][]byte{"nil": nil, "empty": {}} {
		b := holding(letter{1, 2, "a"})
		wantNumber(t, name, b.Add(3, 4, m), 1)
		wantNumber(t, name, b.Add(0, 0, m), 2)
		wantBag(t, name, b, letter{1, 2, "a"}, letter{3, 4, ""}, letter{0, 0, ""})
		wantLeft(t, name, b, letter{1, 2, "a"}, letter{3, 4, ""}, letter{0, 0, ""})
	}
}

func TestAddOfAnyBytes(t *testing.T) {
	var all []byte
	for c := range 256 {
		all = append(all, byte(c))
	}
	long := bytes.Repeat(all, 1<<14)
	b := bag.New()
	b.Add(1, 2, all)
	b.Add(3, 4, long)
	wantLeft(t, "each byte", b, letter{1, 2, string(all)}, letter{3, 4, string(long)})
}

func TestAddDoesNotKeepNorChangeWhatIsHandedIn(t *testing.T) {
	whole := []byte("abcdef")
	b := bag.New()
	b.Add(1, 2, whole[:3])
	b.Double(0)
	b.Add(3, 4, whole[1:2])
	b.Take(1)
	if string(whole) != "abcdef" {
		t.Errorf("what was handed in is %q now", whole)
	}
	clear(whole)
	wantLeft(t, "behind a change of what was handed in", b, letter{1, 2, "abc"}, letter{3, 4, "b"})
}

// The same message may be there more than once.
func TestAddOfTheSame(t *testing.T) {
	b := bag.New()
	m := letter{1, 2, "abc"}
	for k := range 4 {
		wantNumber(t, "Add", b.Add(m.from, m.to, []byte(m.text)), k)
	}
	b.Take(1)
	wantBag(t, "four, one of them out", b, m, m, m)
}

// 9.1: Take

func TestTakeOfEachPlace(t *testing.T) {
	for n := 1; n <= 9; n++ {
		for k := range n {
			l := letters(n)
			b := holding(l...)
			what := fmt.Sprintf("%d, without %d", n, k)
			wantTake(t, what, b, k, l[k])
			wantBag(t, what, b, without(l, k)...)
			wantLeft(t, what, b, without(l, k)...)
		}
	}
}

func TestTakeInEachOrder(t *testing.T) {
	var try func(done string, ks []int, left []letter)
	try = func(done string, ks []int, left []letter) {
		b := holding(letters(6)...)
		for _, k := range ks {
			b.Take(k)
		}
		wantBag(t, done, b, left...)
		for k := range left {
			try(fmt.Sprint(done, " ", k), append(slices.Clone(ks), k), without(left, k))
		}
	}
	try("out", nil, letters(6))
}

func TestNoSuchPlace(t *testing.T) {
	for n := range 6 {
		l := letters(n)
		b := holding(l...)
		for _, k := range noPlaces(n) {
			wantNone(t, fmt.Sprint(n, " messages"), b, k)
			wantBag(t, fmt.Sprintf("%d messages, behind the place %d", n, k), b, l...)
		}
	}
}

// The last place is one no more as soon as one is out.
func TestLastPlaceIsGoneWhenOneIsOut(t *testing.T) {
	for name, out := range map[string]func(b *bag.Bag){
		"Take": func(b *bag.Bag) { b.Take(1) },
		"Drop": func(b *bag.Bag) { b.Drop(0) },
		"Lose": func(b *bag.Bag) { b.Lose(1) },
	} {
		b := holding(letters(3)...)
		out(b)
		wantNone(t, name, b, 2)
		wantNumber(t, name, b.Len(), 2)
	}
}

func TestBytesAreTheCallersOwn(t *testing.T) {
	m := letter{1, 2, "abcdef"}
	b := holding(m, m)
	for range 3 {
		b.Double(0)
	}
	_, _, first, _ := b.Take(2)
	_, _, second, _ := b.Take(2)
	clear(first)
	_ = append(first[:1], "zzzzzzzzzz"...)
	if string(second) != m.text {
		t.Errorf("two answers are shared: %q", second)
	}
	_ = append(second, "zzzzzzzzzz"...)
	clear(second)
	wantBag(t, "behind a change of what was answered", b, m, m, m)
	_, _, third, _ := b.Take(2)
	b.Add(3, 4, []byte("uvwxyz"))
	b.Lose(2)
	if string(third) != m.text {
		t.Errorf("what was answered has changed: %q", third)
	}
}

// 9.1: Double

func TestExampleOfTheDocument(t *testing.T) {
	b := holding(letter{1, 2, "abc"})
	wantNumber(t, "Double(0)", b.Double(0), api.OK)
	wantNumber(t, "Len", b.Len(), 2)
	wantLeft(t, "the only one, doubled", b, letter{1, 2, "abc"}, letter{1, 2, "abc"})
}

func TestDoubleOfEachPlace(t *testing.T) {
	for n := 1; n <= 6; n++ {
		for k := range n {
			l := letters(n)
			b := holding(l...)
			wantNumber(t, "Double", b.Double(k), api.OK)
			l = append(l, l[k])
			wantBag(t, fmt.Sprintf("%d, %d of them doubled", n, k), b, l...)
			wantNumber(t, "Double of the second one", b.Double(n), api.OK)
			l = append(l, l[n])
			wantLeft(t, fmt.Sprintf("%d, %d of them doubled twice", n, k), b, l...)
		}
	}
}

// One that is out leaves the others of it.
func TestDoubledOnesAreApart(t *testing.T) {
	l := letters(3)
	for name, c := range map[string]struct {
		out  func(b *bag.Bag)
		left []letter
	}{
		"Take of the first":  {func(b *bag.Bag) { b.Take(1) }, []letter{l[0], l[2], l[1]}},
		"Drop of the first":  {func(b *bag.Bag) { b.Drop(1) }, []letter{l[0], l[2], l[1]}},
		"Take of the second": {func(b *bag.Bag) { b.Take(3) }, l},
		"Drop of the second": {func(b *bag.Bag) { b.Drop(3) }, l},
		"Lose of both":       {func(b *bag.Bag) { b.Lose(1) }, []letter{l[0], l[2]}},
	} {
		b := holding(l...)
		b.Double(1)
		c.out(b)
		wantBag(t, name, b, c.left...)
	}
}

// 9.1: Drop

func TestDropOfEachPlace(t *testing.T) {
	for n := 1; n <= 9; n++ {
		for k := range n {
			l := letters(n)
			b := holding(l...)
			what := fmt.Sprintf("%d, without %d", n, k)
			wantNumber(t, what, b.Drop(k), api.OK)
			wantBag(t, what, b, without(l, k)...)
			wantLeft(t, what, b, without(l, k)...)
		}
	}
}

// 9.1: Len, To

func TestTo(t *testing.T) {
	b := bag.New()
	for _, to := range []int{2, 0, 2, -1, 2, 0, math.MinInt, 1 << 32} {
		b.Add(5, to, []byte("same"))
	}
	for _, c := range []struct {
		who  int
		want []int
	}{
		{2, []int{0, 2, 4}}, {0, []int{1, 5}}, {-1, []int{3}}, {math.MinInt, []int{6}}, {1 << 32, []int{7}},
		{5, nil}, {1, nil}, {3, nil}, {-2, nil}, {math.MaxInt, nil}, {1<<32 + 2, nil},
	} {
		wantList(t, fmt.Sprintf("To(%d)", c.who), b.To(c.who), c.want...)
	}
	b.Take(2)
	b.Drop(3)
	b.Double(0)
	wantList(t, "To(2), behind steps", b.To(2), 0, 6)
}

func TestPlacesAreTheCallersOwn(t *testing.T) {
	b := holding(letter{1, 2, "a"}, letter{1, 3, "b"}, letter{1, 2, "c"}, letter{1, 2, "d"})
	first, second := b.To(2), b.To(2)
	for k := range first {
		first[k] = -1
	}
	_ = append(first[:0], -2, -2)
	wantList(t, "another answer", second, 0, 2, 3)
	wantList(t, "the next answer", b.To(2), 0, 2, 3)
	b.Take(0)
	wantList(t, "behind a Take", second, 0, 2, 3)
}

func TestAskingChangesNothing(t *testing.T) {
	l := letters(5)
	b := holding(l...)
	for range 3 {
		for _, who := range ends() {
			b.To(who)
		}
		b.Len()
		wantBag(t, "asked", b, l...)
	}
	wantLeft(t, "asked", b, l...)
}

// 9.1: Lose

// Whoever the messages are to, those to one are out, and the others stay in their order.
func TestLoseOfAnyOfThem(t *testing.T) {
	const n = 7
	for which := range 1 << n {
		b := bag.New()
		var left []letter
		for i := range n {
			m := letter{i, which >> i & 1, fmt.Sprint(i)}
			b.Add(m.from, m.to, []byte(m.text))
			if m.to == 0 {
				left = append(left, m)
			}
		}
		what := fmt.Sprintf("%b", which)
		wantNumber(t, what, b.Lose(1), n-len(left))
		wantBag(t, what, b, left...)
		wantNumber(t, what+" again", b.Lose(1), 0)
		wantBag(t, what+" again", b, left...)
		wantNumber(t, what+", the others", b.Lose(0), len(left))
		wantLeft(t, what+", the others", b)
	}
}

func TestLoseAtTheEdges(t *testing.T) {
	var l []letter
	for i, to := range ends() {
		l = append(l, letter{i + 2, to, "a"}, letter{to, 7, "b"})
	}
	for k := 0; k < len(l); k += 2 {
		b := holding(l...)
		what := fmt.Sprintf("Lose(%d)", l[k].to)
		wantNumber(t, what, b.Lose(l[k].to), 1)
		wantBag(t, what, b, without(l, k)...)
	}
	b := holding(l...)
	wantNumber(t, "Lose of nobody's", b.Lose(8), 0)
	wantNumber(t, "Lose(7)", b.Lose(7), len(ends()))
}

// 9.1: of nil

func TestOfNil(t *testing.T) {
	var b *bag.Bag
	for range 2 {
		wantNumber(t, "Add", b.Add(1, 2, []byte("a")), -1)
		wantNumber(t, "Add of nothing", b.Add(0, 0, nil), -1)
		wantNumber(t, "Len", b.Len(), 0)
		for _, k := range append(noPlaces(0), ends()...) {
			wantNone(t, "nil", b, k)
			wantList(t, "To", b.To(k))
			wantNumber(t, "Lose", b.Lose(k), 0)
		}
		wantList(t, "To(2)", b.To(2))
		wantNumber(t, "Lose(2)", b.Lose(2), 0)
	}
}

// A bag that New did not make is empty, and may be used.
func TestZeroBag(t *testing.T) {
	var b bag.Bag
	wantBag(t, "zero", &b)
	wantNone(t, "zero", &b, 0)
	wantNumber(t, "Lose", b.Lose(0), 0)
	wantNumber(t, "Add", b.Add(1, 2, []byte("a")), 0)
	wantLeft(t, "with one", &b, letter{1, 2, "a"})
}

func TestBagsAreApart(t *testing.T) {
	one, two := holding(letters(3)...), holding(letters(4)...)
	one.Take(0)
	two.Double(1)
	one.Add(5, 6, []byte("x"))
	two.Lose(2)
	wantLeft(t, "one", one, letters(3)[1], letters(3)[2], letter{5, 6, "x"})
	wantLeft(t, "two", two, letters(4)[0], letters(4)[1], letters(4)[3], letters(4)[1])
}

// 9.1, of many messages

// mustAdd fails at once unless Add tells just this place of a message from such a one.
func mustAdd(t *testing.T, b *bag.Bag, from, place int) {
	t.Helper()
	if got := b.Add(from, from+1, []byte{byte(from)}); got != place {
		t.Fatalf("Add of %d: %d; not %d", from, got, place)
	}
}

// mustTake fails at once unless Take tells what mustAdd added.
func mustTake(t *testing.T, b *bag.Bag, k, want int) {
	t.Helper()
	if from, to, m, e := b.Take(k); from != want || to != want+1 || len(m) != 1 || m[0] != byte(want) || e != api.OK {
		t.Fatalf("Take(%d): %d, %d, %x, %d; not %d", k, from, to, m, e, want)
	}
}

// A long row is taken from at its ends, or beside them, as soon as a short one: this would take many minutes if all others moved at each call.
func TestLongRow(t *testing.T) {
	const many = 1 << 19
	for name, c := range map[string]struct{ place, from func(i int) int }{
		"the first":        {func(i int) int { return 0 }, func(i int) int { return i }},
		"the second":       {func(i int) int { return 1 }, func(i int) int { return i + 1 }},
		"the last but one": {func(i int) int { return many - 2 - i }, func(i int) int { return many - 2 - i }},
		"the last":         {func(i int) int { return many - 1 - i }, func(i int) int { return many - 1 - i }},
	} {
		b := bag.New()
		for i := range many {
			mustAdd(t, b, i, i)
		}
		for i := range many - 1 {
			mustTake(t, b, c.place(i), c.from(i))
		}
		wantNumber(t, name+": Len", b.Len(), 1)
	}
}

// Nor does it take longer if for each one that goes another one comes.
func TestLongRowThroughWhichManyGo(t *testing.T) {
	const many = 1 << 19
	b := bag.New()
	for i := range many {
		mustAdd(t, b, i, i)
	}
	for i := range 2 * many {
		mustTake(t, b, 0, i)
		mustAdd(t, b, many+i, many-1)
	}
}

// heap answers how many bytes are in use.
func heap() int {
	var m runtime.MemStats
	runtime.GC()
	runtime.ReadMemStats(&m)
	return int(m.HeapAlloc)
}

// What is out is not kept.
func TestWhatIsOutIsNotKept(t *testing.T) {
	const many, size = 64, 1 << 18
	for name, out := range map[string]func(b *bag.Bag){
		"Take of the first":  func(b *bag.Bag) { b.Take(0) },
		"Take of the second": func(b *bag.Bag) { b.Take(1) },
		"Take of the last":   func(b *bag.Bag) { b.Take(b.Len() - 1) },
		"Take of the middle": func(b *bag.Bag) { b.Take(b.Len() / 2) },
		"Drop of the first":  func(b *bag.Bag) { b.Drop(0) },
		"Drop of the last":   func(b *bag.Bag) { b.Drop(b.Len() - 1) },
		"Lose":               func(b *bag.Bag) { b.Lose(b.Len() - 1) },
	} {
		before := heap()
		b := bag.New()
		for i := range many {
			b.Add(0, i, bytes.Repeat([]byte{byte(i)}, size))
		}
		for range many - 2 {
			out(b)
		}
		wantNumber(t, name, b.Len(), 2)
		if more := heap() - before; more > many/4*size {
			t.Errorf("%s: two of %d bytes are left, and %d bytes more are in use", name, size, more)
		}
		runtime.KeepAlive(b)
	}
}

// Nor does a short row grow by what went through it.
func TestShortRowThroughWhichManyGo(t *testing.T) {
	before := heap()
	b := holding(letters(3)...)
	for i := range 1 << 21 {
		b.Add(i, 0, nil)
		b.Take(0)
	}
	if more := heap() - before; more > 1<<20 {
		t.Errorf("%d bytes more are in use", more)
	}
	wantNumber(t, "Len", b.Len(), 3)
}
