package watch_test

import (
	"slices"
	"testing"

	"casebook/api"
	"casebook/watch"
)

// word is something that was heard: when, and of whom.
type word struct{ now, node int }

// plain is one told by the chapter's words: it keeps each word, and goes over all of them when it is asked.
type plain struct {
	n, self int
	words   []word
}

func plainOf(n, self, now int) *plain {
	p := &plain{n: n, self: self}
	for node := range n {
		p.words = append(p.words, word{now, node})
	}
	return p
}

func (p *plain) heard(now, node int) {
	if node >= 0 && node < p.n {
		p.words = append(p.words, word{now, node})
	}
}

// there asks for a word in the last twelve ticks, or a later one.
func (p *plain) there(now, node int) bool {
	if node < 0 || node >= p.n {
		return false
	}
	return node == p.self || slices.ContainsFunc(p.words, func(x word) bool { return x.node == node && x.now+12 > now })
}

func (p *plain) gone(now int) []int {
	var l []int
	for node := range p.n {
		if !p.there(now, node) {
			l = append(l, node)
		}
	}
	return l
}

// wantSame fails unless both tell the same at a time. It tells how many are gone then.
func wantSame(t *testing.T, w *watch.Watch, p *plain, now int) int {
	t.Helper()
	want := p.gone(now)
	if got := w.Gone(now); !slices.Equal(got, want) {
		t.Fatalf("%v: Gone(%d): %v; not %v", p.words, now, got, want)
	}
	for node := -1; node <= p.n; node++ {
		if w.There(now, node) != p.there(now, node) {
			t.Fatalf("%v: There(%d, %d): %t", p.words, now, node, !p.there(now, node))
		}
	}
	return len(want)
}

// Behind each word of each script of four of some chosen words.
func TestEachShortScript(t *testing.T) {
	words := []word{{12, 2}, {30, -1}, {9, 1}}
	for node := range 2 {
		words = append(words, word{10, node}, word{11, node}, word{12, node}, word{30, node})
	}
	const long = 4
	scripts := 1
	for range long {
		scripts *= len(words)
	}
	for script := range scripts {
		for self := range 2 {
			w, p := begun(t, 2, self, 10), plainOf(2, self, 10)
			for left, k := script, 0; k < long; left, k = left/len(words), k+1 {
				x := words[left%len(words)]
				w.Heard(x.now, x.node)
				p.heard(x.now, x.node)
			}
			for _, now := range []int{9, 10, 21, 22, 23, 24, 41, 42} {
				wantSame(t, w, p, now)
			}
		}
	}
}

// numbers answers a call that answers numbers from 0 to below n, the same ones in each run.
func numbers() func(n int) int {
	state := uint64(1)
	return func(n int) int {
		state = state*6364136223846793005 + 1442695040888963407
		return int((state >> 33) % uint64(n))
	}
}

// Behind each word of many long scripts, from early beginnings and late ones on, in which time goes on and words come late.
func TestLongScripts(t *testing.T) {
	next := numbers()
	gone, there := 0, 0
	for script := range 500 {
		n := 1 + script%api.MaxNodes
		self := next(n)
		begin := []int{0, 7, 1 << 32, api.MaxTick - 300}[script%4]
		w, p := begun(t, n, self, begin), plainOf(n, self, begin)
		now := begin
		for range 80 {
			now += next(5)
			x := word{now - next(20)*next(2), next(n+2) - next(10)/9}
			w.Heard(x.now, x.node)
			p.heard(x.now, x.node)
			for _, at := range []int{now, now - next(30), now + next(15)} {
				g := wantSame(t, w, p, at)
				gone += g
				there += n - g
			}
		}
	}
	if gone < 10000 || there < 10000 {
		t.Errorf("only %d times gone, %d times there", gone, there)
	}
}
