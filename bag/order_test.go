package bag_test

import (
	"fmt"
	"slices"
	"testing"

	"casebook/api"
	"casebook/bag"
)

// numbers answers a call that answers numbers from 0 to below n, the same ones in each run.
func numbers() func(n int) int {
	state := uint64(1)
	return func(n int) int {
		state = state*6364136223846793005 + 1442695040888963407
		return int((state >> 33) % uint64(n))
	}
}

// model is a bag told otherwise: each call makes a new list.
type model struct{ all []letter }

func (m *model) add(x letter) int {
	m.all = append(slices.Clone(m.all), x)
	return len(m.all) - 1
}

func (m *model) has(k int) bool { return k >= 0 && k < len(m.all) }

func (m *model) take(k int) (letter, int) {
	if !m.has(k) {
		return letter{}, api.ErrNone
	}
	x := m.all[k]
	m.all = slices.Concat(m.all[:k], m.all[k+1:])
	return x, api.OK
}

func (m *model) double(k int) int {
	if !m.has(k) {
		return api.ErrNone
	}
	m.add(m.all[k])
	return api.OK
}

func (m *model) lose(who int) int {
	var left []letter
	for _, x := range m.all {
		if x.to != who {
			left = append(left, x)
		}
	}
	lost := len(m.all) - len(left)
	m.all = left
	return lost
}

// step does the same to a bag and to its model.
type step struct {
	name string
	do   func(t *testing.T, b *bag.Bag, m *model)
}

func adds(x letter) step {
	return step{"Add of " + x.short(), func(t *testing.T, b *bag.Bag, m *model) {
		t.Helper()
		wantNumber(t, "Add", b.Add(x.from, x.to, []byte(x.text)), m.add(x))
	}}
}

func takes(k int) step {
	return step{fmt.Sprintf("Take(%d)", k), func(t *testing.T, b *bag.Bag, m *model) {
		t.Helper()
		from, to, text, e := b.Take(k)
		got := letter{from, to, string(text)}
		if want, wantE := m.take(k); got != want || e != wantE {
			t.Errorf("Take(%d): %s, %d; not %s, %d", k, got.short(), e, want.short(), wantE)
		}
	}}
}

func doubles(k int) step {
	return step{fmt.Sprintf("Double(%d)", k), func(t *testing.T, b *bag.Bag, m *model) {
		t.Helper()
		wantNumber(t, fmt.Sprintf("Double(%d)", k), b.Double(k), m.double(k))
	}}
}

func drops(k int) step {
	return step{fmt.Sprintf("Drop(%d)", k), func(t *testing.T, b *bag.Bag, m *model) {
		t.Helper()
		_, want := m.take(k)
		wantNumber(t, fmt.Sprintf("Drop(%d)", k), b.Drop(k), want)
	}}
}

func loses(who int) step {
	return step{fmt.Sprintf("Lose(%d)", who), func(t *testing.T, b *bag.Bag, m *model) {
		t.Helper()
		wantNumber(t, fmt.Sprintf("Lose(%d)", who), b.Lose(who), m.lose(who))
	}}
}

// wantSeen fails unless a bag's Len and To are as its model is.
func wantSeen(t *testing.T, what string, b *bag.Bag, m *model, whom int) {
	t.Helper()
	wantNumber(t, what+": Len", b.Len(), len(m.all))
	for who := -1; who <= whom; who++ {
		wantList(t, fmt.Sprintf("%s: To(%d)", what, who), b.To(who), whereTo(m.all, who)...)
	}
}

// 9.1, behind each script of few steps, of a new bag and of one that has up to three.
func TestBagIsAsItsModelBehindEachShortScript(t *testing.T) {
	steps := []step{
		adds(letter{5, 0, "a"}), adds(letter{6, 1, "bcd"}), adds(letter{1, 0, ""}),
		takes(-1), takes(0), takes(1), takes(2), doubles(0), doubles(1), drops(0), drops(1), loses(0), loses(1),
	}
	var try func(script []step, left int)
	try = func(script []step, left int) {
		if left > 0 {
			for _, s := range steps {
				try(append(slices.Clone(script), s), left-1)
			}
			return
		}
		b, m := bag.New(), &model{}
		done := ""
		for _, s := range script {
			s.do(t, b, m)
			done += s.name + "; "
		}
		wantSeen(t, done, b, m, 2)
		wantLeft(t, done, b, m.all...)
		if t.Failed() {
			t.FailNow()
		}
	}
	// A step that may not be is among them, so that there are shorter scripts too.
	var begun []step
	for _, x := range letters(4) {
		try(begun, 4)
		begun = append(begun, adds(x))
	}
}

// anyPlace answers a place, most often one that a row of so many has: also its first ones and its last ones.
func anyPlace(next func(n int) int, n int) int {
	switch next(4) {
	case 0:
		return next(3) - 1
	case 1:
		return n - next(3)
	}
	return next(n + 2)
}

// anyStep answers a step of a long script: for some time more come, then more go.
func anyStep(next func(n int) int, i, n, whom int) step {
	if next(10) < 3+4*(i/150%2) {
		switch next(12) {
		case 0:
			return loses(next(whom + 1))
		case 1, 2, 3:
			return drops(anyPlace(next, n))
		}
		return takes(anyPlace(next, n))
	}
	if next(4) == 0 {
		return doubles(anyPlace(next, n))
	}
	return adds(letter{i, next(whom), fmt.Sprint("message ", i)[next(9):]})
}

// 9.1, behind each step of long scripts.
func TestBagIsAsItsModel(t *testing.T) {
	next := numbers()
	most := 0
	for script := range 60 {
		b, m := bag.New(), &model{}
		whom := 2 + script%9
		for i := range 600 {
			s := anyStep(next, i, len(m.all), whom)
			s.do(t, b, m)
			what := fmt.Sprintf("script %d, step %d, %s", script, i, s.name)
			wantSeen(t, what, b, m, whom)
			if i%20 == 0 {
				wantBag(t, what, b, m.all...)
			}
			if t.Failed() {
				t.FailNow()
			}
			most = max(most, len(m.all))
		}
		wantLeft(t, fmt.Sprintf("script %d", script), b, m.all...)
	}
	if most < 60 {
		t.Errorf("no row was longer than %d", most)
	}
}

// 9.2

// count is how often each message may come out, and how many may in all.
type count struct {
	each map[letter]int
	all  int
}

func (c *count) in(x letter) {
	c.each[x]++
	c.all++
}

// wantOut fails unless a message that comes out was put in and did not come out as often.
func (c *count) wantOut(t *testing.T, what string, x letter) {
	t.Helper()
	if c.each[x] == 0 {
		t.Fatalf("%s: %s is made of nothing", what, x.short())
	}
	c.each[x]--
	c.all--
}

// seen answers the message at a place that the bag has.
func seen(b *bag.Bag, k int) letter {
	b.Double(k)
	from, to, m, _ := b.Take(b.Len() - 1)
	return letter{from, to, string(m)}
}

// doAny does one of the calls to a bag, and counts what it puts in and what it takes out.
func doAny(t *testing.T, b *bag.Bag, c *count, next func(n int) int, i int) {
	t.Helper()
	k, who := next(b.Len()+2)-1, next(3)
	has := k >= 0 && k < b.Len()
	switch next(16) {
	case 0, 1, 2, 3:
		if from, to, m, e := b.Take(k); e == api.OK {
			c.wantOut(t, fmt.Sprintf("Take(%d)", k), letter{from, to, string(m)})
		}
	case 4, 5:
		if has {
			c.wantOut(t, fmt.Sprintf("Drop(%d)", k), seen(b, k))
		}
		b.Drop(k)
	case 6, 7, 8, 9:
		if has {
			c.in(seen(b, k))
		}
		b.Double(k)
	case 10:
		places := b.To(who)
		for _, place := range places {
			c.wantOut(t, fmt.Sprintf("Lose(%d)", who), seen(b, place))
		}
		wantNumber(t, fmt.Sprintf("Lose(%d)", who), b.Lose(who), len(places))
	default:
		x := letter{i, who, fmt.Sprint("message ", i)}
		b.Add(x.from, x.to, []byte(x.text))
		c.in(x)
	}
}

// Each message that comes out, or is lost, was put in or doubled as often, and all that was comes out at last.
func TestNothingIsMadeOfNothing(t *testing.T) {
	next := numbers()
	for script := range 40 {
		b, c := bag.New(), &count{each: map[letter]int{}}
		for i := range 800 {
			doAny(t, b, c, next, i)
			wantNumber(t, fmt.Sprintf("script %d, step %d: Len", script, i), b.Len(), c.all)
			if t.Failed() {
				t.FailNow()
			}
		}
		for b.Len() > 0 {
			from, to, m, _ := b.Take(next(b.Len()))
			c.wantOut(t, "at last", letter{from, to, string(m)})
		}
		wantNumber(t, "left over", c.all, 0)
	}
}

// A bag into which nothing is put has nothing, whatever else is done.
func TestNothingComesOfCallsThatPutNothingIn(t *testing.T) {
	next := numbers()
	b := bag.New()
	for range 2000 {
		k := next(5) - 2
		wantNone(t, "nothing", b, k)
		wantNumber(t, "Lose", b.Lose(k), 0)
		wantList(t, "To", b.To(k))
		wantNumber(t, "Len", b.Len(), 0)
	}
}
