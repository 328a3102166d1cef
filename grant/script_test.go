package grant_test

import (
	"slices"
	"testing"

	"casebook/api"
	"casebook/grant"
)

// promise is one that was given: when, and to whom.
type promise struct{ now, node int }

// plain is grants told by the chapter's words: it keeps each promise, and goes over all of them when it is asked.
type plain struct {
	n, begin int
	promises []promise
}

func plainOf(n, now int) *plain {
	p := &plain{n: n, begin: now}
	for node := range n {
		p.promises = append(p.promises, promise{now, node})
	}
	return p
}

func (p *plain) give(now, node int) bool {
	if node < 0 || node >= p.n || now < p.begin || now > api.MaxTick {
		return false
	}
	p.promises = append(p.promises, promise{now, node})
	return true
}

func (p *plain) until(node int) int {
	latest := 0
	for _, x := range p.promises {
		if x.node == node && x.now+50 > latest {
			latest = x.now + 50
		}
	}
	return latest
}

// veto asks of each promise if it is one to a node that is left out, and not over.
func (p *plain) veto(now int, from, to []int) bool {
	for _, x := range p.promises {
		if x.now+50 > now && slices.Contains(from, x.node) && !slices.Contains(to, x.node) {
			return true
		}
	}
	return false
}

// call is a Give.
type call struct{ now, node int }

// do does a call of both. It fails unless both answer the same, and tell the same behind it.
func (x call) do(t *testing.T, g *grant.Grants, p *plain) bool {
	t.Helper()
	before := slices.Clone(p.promises)
	want := p.give(x.now, x.node)
	if got := g.Give(x.now, x.node); got != want {
		t.Fatalf("%v: %v: %t", before, x, got)
	}
	for node := -1; node <= p.n; node++ {
		if got := g.Until(node); got != p.until(node) {
			t.Fatalf("%v: %v: Until(%d): %d; not %d", before, x, node, got, p.until(node))
		}
	}
	return want
}

// wantVetoes fails unless both veto the same, around each time at which a promise is over.
func wantVetoes(t *testing.T, g *grant.Grants, p *plain, from, to []int) int {
	t.Helper()
	vetoes := 0
	for node := range p.n {
		for _, now := range []int{p.until(node) - 1, p.until(node)} {
			want := p.veto(now, from, to)
			if g.Veto(now, of(1, from...), of(2, to...)) != want {
				t.Fatalf("%v: Veto(%d, %v, %v): %t", p.promises, now, from, to, !want)
			}
			if want {
				vetoes++
			}
		}
	}
	return vetoes
}

// Behind each call of each script of four of some chosen calls.
func TestEachShortScript(t *testing.T) {
	calls := []call{{9, 0}, {60, -1}, {60, 2}, {api.MaxTick + 1, 1}, {10, 1}}
	for node := range 2 {
		calls = append(calls, call{11, node}, call{12, node}, call{59, node}, call{60, node})
	}
	const long = 4
	scripts := 1
	for range long {
		scripts *= len(calls)
	}
	for script := range scripts {
		g, p := begun(t, 2, 10), plainOf(2, 10)
		for left, k := script, 0; k < long; left, k = left/len(calls), k+1 {
			calls[left%len(calls)].do(t, g, p)
		}
		for _, out := range [][]int{{0}, {1}, {0, 1}} {
			wantVetoes(t, g, p, []int{0, 1}, out)
			wantVetoes(t, g, p, out, nil)
		}
	}
}

// numbers answers a call that answers numbers from 0 to below n, the same ones in each run.
func numbers() func(n int) int {
	state := uint64(1)
	return func(n int) int {
		state = state*6364136223846793005 + 1442695040888963407
		return int((state >> 33) % uint64(n))
	}
}

// anyNodes answers nodes in any order, mostly such as a chain may have.
func anyNodes(next func(n int) int) []int {
	var l []int
	for range next(api.MaxNodes + 1) {
		node := next(api.MaxNodes+next(20)/19) - next(20)/19
		if !slices.Contains(l, node) || next(40) == 0 {
			l = append(l, node)
		}
	}
	return l
}

// Behind each call of many long scripts, from early beginnings and late ones on, in which time goes on and promises come late.
func TestLongScripts(t *testing.T) {
	next := numbers()
	given, refused, vetoes, asked := 0, 0, 0, 0
	for script := range 500 {
		n := 1 + script%api.MaxNodes
		begin := []int{0, 7, 1 << 32, api.MaxTick - 300}[script%4]
		g, p := begun(t, n, begin), plainOf(n, begin)
		now := begin
		for range 60 {
			now += next(15)
			x := call{now - next(80)*next(2), next(n+2) - next(10)/9}
			if x.do(t, g, p) {
				given++
			} else {
				refused++
			}
			vetoes += wantVetoes(t, g, p, anyNodes(next), anyNodes(next))
			asked += 2 * n
		}
	}
	if given < 5000 || refused < 5000 || vetoes < 5000 || asked-vetoes < 5000 {
		t.Errorf("only %d promises, %d refused; %d vetoes of %d", given, refused, vetoes, asked)
	}
}
