package client_test

import (
	"slices"
	"strings"
	"testing"

	"casebook/api"
	"casebook/client"
)

// plain is one told by the chapter's words: it keeps each try, and who was answered.
type plain struct {
	id, n    int
	tries    []try
	answered map[int]bool
	known    api.Chain
}

// try is that a request was asked at a time.
type try struct {
	q  api.Req
	at int
}

// mayBe tells which requests may be, by the words of chapter 2.
func mayBe(q api.Req) bool {
	text := q.Kind == api.OpCreate || q.Kind == api.OpUpdate
	match := q.Kind == api.OpUpdate || q.Kind == api.OpDelete || q.Kind == api.OpVersion && q.Match >= 1
	return slices.Contains([]int{0, 1, 2, 3}, q.Client) &&
		q.Seq >= 1 && q.Seq <= 1<<30 &&
		q.Kind >= 1 && q.Kind <= 6 &&
		q.Id >= 0 && q.Id <= 31 &&
		(text && len(q.Data) <= 64 || q.Data == "") &&
		(match && q.Match >= 0 && q.Match <= 100 || q.Match == 0 && q.Kind != api.OpVersion)
}

// mayBeKnown tells which chains may be, by the words of chapter 2.
func mayBeKnown(c api.Chain) bool {
	for k, node := range c.Nodes {
		if node < 0 || node >= 5 || slices.Contains(c.Nodes[:k], node) {
			return false
		}
	}
	return c.Epoch >= 0 && c.Epoch <= 1<<30 && len(c.Nodes) > 0
}

func (p *plain) seq() int {
	if len(p.tries) == 0 {
		return 0
	}
	return p.tries[len(p.tries)-1].q.Seq
}

// waiting answers the tries of what is pending: none, if nothing is.
func (p *plain) waiting() []try {
	if p.answered[p.seq()] {
		return nil
	}
	for k, x := range p.tries {
		if x.q.Seq == p.seq() {
			return p.tries[k:]
		}
	}
	return nil
}

// whom answers whom to ask, by the words of chapter 20.
func (p *plain) whom() int {
	l := p.waiting()
	times := len(l)
	mayAsk := len(p.known.Nodes) > 0
	for _, node := range p.known.Nodes {
		mayAsk = mayAsk && node < p.n
	}
	switch {
	case times > 2 || !mayAsk:
		return times % p.n
	case l[0].q.Kind <= 3:
		return p.known.Nodes[0]
	}
	return p.known.Nodes[times%len(p.known.Nodes)]
}

func (p *plain) ask(now int, q api.Req) (int, int) {
	q.Client, q.Seq = p.id, p.seq()+1
	switch {
	case !mayBe(q) || now < 0 || now > 1<<40:
		return 0, api.ErrArg
	case len(p.waiting()) > 0:
		return 0, api.ErrState
	}
	p.tries = append(p.tries, try{q, now})
	return p.whom(), api.OK
}

func (p *plain) tick(now int) (int, bool) {
	l := p.waiting()
	if len(l) == 0 {
		return -1, false
	}
	last := l[len(l)-1]
	waits := []int{8, 16, 24, 32}[min(len(l)-1, 3)]
	if now < last.at+waits {
		return -1, false
	}
	p.tries = append(p.tries, try{last.q, now})
	return p.whom(), true
}

func (p *plain) tell(seq int, known api.Chain) {
	if len(p.waiting()) > 0 && p.seq() == seq && mayBeKnown(known) && known.Epoch >= p.known.Epoch {
		p.known = known
	}
}

func (p *plain) answer(seq int) bool {
	if len(p.waiting()) == 0 || p.seq() != seq {
		return false
	}
	p.answered[seq] = true
	return true
}

// pair is a client and its model.
type pair struct {
	c *client.Client
	p *plain
}

func paired(t *testing.T, id, n int) pair {
	t.Helper()
	return pair{begun(t, id, n), &plain{id: id, n: n, answered: map[int]bool{}}}
}

func (x pair) ask(t *testing.T, now int, q api.Req) {
	t.Helper()
	want, e := x.p.ask(now, q)
	if e != api.OK {
		wantError(t, x.c, now, q, e)
		return
	}
	wantAsk(t, x.c, now, q, want)
}

func (x pair) tick(t *testing.T, now int) {
	t.Helper()
	want, _ := x.p.tick(now)
	wantTick(t, x.c, now, want)
}

func (x pair) tell(seq int, known api.Chain) {
	x.p.tell(seq, known)
	x.c.Told(seq, known)
}

func (x pair) answer(t *testing.T, seq int) {
	t.Helper()
	wantAnswer(t, x.c, seq, x.p.answer(seq))
}

// same fails unless both have the same.
func (x pair) same(t *testing.T) {
	t.Helper()
	l := x.p.waiting()
	want := api.Req{}
	if len(l) > 0 {
		want = l[0].q
	}
	if q, ok := x.c.Pending(); q != want || ok != (len(l) > 0) {
		t.Errorf("Pending: %v, %t; not %v", q, ok, want)
	}
	if x.c.Seq() != x.p.seq() || x.c.Tries() != len(l) {
		t.Errorf("Seq: %d, Tries: %d; not %d, %d", x.c.Seq(), x.c.Tries(), x.p.seq(), len(l))
	}
}

// moves are calls, of which scripts are made.
func moves(t *testing.T) []func(pair) {
	ask := func(now int, q api.Req) func(pair) { return func(x pair) { x.ask(t, now, q) } }
	tick := func(now int) func(pair) { return func(x pair) { x.tick(t, now) } }
	tell := func(seq int, known api.Chain) func(pair) { return func(x pair) { x.tell(seq, known) } }
	answer := func(seq int) func(pair) { return func(x pair) { x.answer(t, seq) } }
	return []func(pair){
		ask(10, api.Req{Kind: api.OpCreate, Data: "a"}), ask(20, api.Req{Kind: api.OpRead}), ask(10, api.Req{Kind: api.OpVersion}),
		tick(18), tick(33), tick(90), tell(1, chainOf(2, 2, 0)), tell(1, chainOf(1, 0, 2, 1)), tell(2, chainOf(2, 0)), answer(1), answer(2),
	}
}

// Behind each script of some chosen calls.
func TestEachShortScript(t *testing.T) {
	calls := moves(t)
	const long = 5
	scripts := 1
	for range long {
		scripts *= len(calls)
	}
	for script := range scripts {
		x := paired(t, 1, 3)
		for left, k := script, 0; k < long; left, k = left/len(calls), k+1 {
			calls[left%len(calls)](x)
		}
		x.same(t)
		if t.Failed() {
			t.Fatalf("script %d", script)
		}
	}
}

// numbers answers a call that answers numbers from 0 to below n, the same ones in each run.
func numbers() func(n int) int {
	state := uint64(1)
	return func(n int) int {
		state = state*6364136223846793005 + 1442695040888963407
		return int((state >> 33) % uint64(n))
	}
}

// random answers a request, now and then one that may not be.
func random(next func(n int) int) api.Req {
	q := api.Req{Client: next(9) - 2, Seq: next(9) - 2, Kind: 1 + next(6), Id: next(32)}
	if q.Kind <= api.OpUpdate {
		q.Data = strings.Repeat("d", next(api.MaxData+1))
	}
	if q.Kind == api.OpUpdate || q.Kind == api.OpDelete || q.Kind == api.OpVersion {
		q.Match = next(101)
	}
	if next(20) == 0 {
		q.Id, q.Kind = next(40)-4, next(9)
	}
	return q
}

// randomChain answers a chain, now and then one that may not be.
func randomChain(next func(n int) int, epoch int) api.Chain {
	c := api.Chain{Epoch: epoch + next(5) - 2}
	for range next(4) {
		c.Nodes = append(c.Nodes, next(6)-next(20)/19)
	}
	return c
}

// Behind each call of long scripts.
func TestLongScripts(t *testing.T) {
	next := numbers()
	tries, answers := 0, 0
	for script := range 300 {
		x := paired(t, script%api.MaxClients, 1+script%api.MaxNodes)
		now := next(1000)
		for range 300 {
			now += next(6) - next(30)/29*9
			seq := x.p.seq() + next(30)/29*(next(4)-2)
			switch next(10) {
			case 0:
				x.ask(t, now-next(30)/29*2000, random(next))
			case 1:
				x.answer(t, seq-next(2))
			case 2:
				x.tell(seq, randomChain(next, x.p.known.Epoch))
			default:
				x.tick(t, now)
			}
			x.same(t)
			if t.Failed() {
				t.Fatalf("script %d", script)
			}
		}
		tries, answers = tries+len(x.p.tries), answers+len(x.p.answered)
	}
	if tries < 300*20 || answers < 300*5 {
		t.Errorf("only %d tries, %d answers", tries, answers)
	}
}
