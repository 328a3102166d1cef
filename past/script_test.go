package past_test

import (
	"math"
	"slices"
	"strings"
	"testing"

	"casebook/api"
	"casebook/past"
)

// plain is one told by the chapter's words: a list of acts, of which all is found by going over it.
type plain struct{ acts []api.Act }

// mayBe tells which requests may be, by the words of chapter 2.
func mayBe(q api.Req) bool {
	text := q.Kind == api.OpCreate || q.Kind == api.OpUpdate
	match := q.Kind == api.OpUpdate || q.Kind == api.OpDelete || q.Kind == api.OpVersion && q.Match >= 1
	return slices.Contains([]int{0, 1, 2, 3}, q.Client) &&
		q.Seq >= 1 && q.Seq <= 1<<30 &&
		q.Kind >= 1 && q.Kind <= 6 &&
		q.Id >= 0 && q.Id <= 31 &&
		(text && len(q.Data) <= 64 || q.Data == "") &&
		(match && q.Match >= 0 && q.Match <= 100 || q.Match == 0 && q.Kind != api.OpVersion)
}

// last answers the last act of a client, if there is one.
func (p *plain) last(client int) (api.Act, bool) {
	for k := len(p.acts) - 1; k >= 0; k-- {
		if p.acts[k].Client == client {
			return p.acts[k], true
		}
	}
	return api.Act{}, false
}

func (p *plain) ask(q api.Req) int {
	last, ok := p.last(q.Client)
	switch {
	case !mayBe(q):
		return api.ErrArg
	case ok && !last.Answer:
		return api.ErrState
	case ok && q.Seq <= last.Seq:
		return api.ErrOrder
	}
	p.acts = append(p.acts, api.Act{Client: q.Client, Seq: q.Seq, Req: q})
	return api.OK
}

func (p *plain) answer(client, seq int, r api.Reply, at int) int {
	last, ok := p.last(client)
	switch {
	case at < 0 || at > 1<<30:
		return api.ErrArg
	case !ok || last.Answer || last.Seq != seq:
		return api.ErrState
	}
	p.acts = append(p.acts, api.Act{Client: client, Seq: seq, Answer: true, Req: last.Req, Reply: r, At: at})
	return api.OK
}

func (p *plain) pending() []api.Req {
	var l []api.Req
	for client := range 4 {
		if last, ok := p.last(client); ok && !last.Answer {
			l = append(l, last.Req)
		}
	}
	return l
}

// may tells if such acts could have been written down: it has them written down once more.
func may(l []api.Act) bool {
	p := &plain{}
	for _, a := range l {
		e := api.OK
		if a.Answer {
			e = p.answer(a.Client, a.Seq, a.Reply, a.At)
		} else {
			e = p.ask(a.Req)
		}
		if e != api.OK || !sameAct(p.acts[len(p.acts)-1], a) {
			return false
		}
	}
	return true
}

// pair is a past and its model.
type pair struct {
	p *past.Past
	m *plain
}

func paired() pair { return pair{past.New(), &plain{}} }

func (x pair) ask(t *testing.T, q api.Req) {
	t.Helper()
	wantAsk(t, x.p, q, x.m.ask(q))
}

func (x pair) answer(t *testing.T, client, seq int, r api.Reply, at int) {
	t.Helper()
	wantAnswer(t, x.p, client, seq, r, at, x.m.answer(client, seq, r, at))
}

// moves are calls, of which scripts are made.
func moves(t *testing.T) []func(pair) {
	ask := func(q api.Req) func(pair) { return func(x pair) { x.ask(t, q) } }
	answer := func(client, seq, at int) func(pair) {
		return func(x pair) { x.answer(t, client, seq, api.Reply{Code: api.RDone, Versions: []int{1, seq}}, at) }
	}
	return []func(pair){
		ask(create(0, 1, 3, "a")), ask(read(0, 2, 3)), ask(history(0, 3, 3)), ask(read(0, 3, 32)), ask(create(3, 2, 3, "b")),
		answer(0, 1, 1), answer(0, 2, 0), answer(0, 3, 7), answer(0, 1, -1), answer(3, 2, 1), answer(4, 1, 1),
	}
}

// Behind each script of some chosen calls.
func TestEachShortScript(t *testing.T) {
	calls := moves(t)
	const long = 5
	scripts := 1
	for range long {
		scripts *= len(calls)
	}
	for script := range scripts {
		x := paired()
		for left, k := script, 0; k < long; left, k = left/len(calls), k+1 {
			calls[left%len(calls)](x)
		}
		wantPast(t, x.p, x.m.acts, x.m.pending()...)
		if t.Failed() {
			return
		}
	}
}

// numbers answers a call that answers numbers from 0 to below n, the same ones in each run.
func numbers() func(n int) int {
	state := uint64(1)
	return func(n int) int {
		state = state*6364136223846793005 + 1442695040888963407
		return int((state >> 33) % uint64(n))
	}
}

// random answers a request, now and then one that may not be.
func random(next func(n int) int, client, seq int) api.Req {
	q := api.Req{Client: client, Seq: seq, Kind: 1 + next(6), Id: next(32)}
	if q.Kind <= api.OpUpdate {
		q.Data = strings.Repeat("d", next(api.MaxData+1))
	}
	if q.Kind == api.OpUpdate || q.Kind == api.OpDelete || q.Kind == api.OpVersion {
		q.Match = next(101)
	}
	if next(20) == 0 {
		q.Id, q.Kind = next(40)-4, next(9)
	}
	return q
}

// randomReply answers any reply.
func randomReply(next func(n int) int) api.Reply {
	r := api.Reply{Code: next(8) - 1, Version: next(5), Data: strings.Repeat("r", next(4))}
	for range next(4) {
		r.Versions = append(r.Versions, next(9))
	}
	return r
}

// Behind each call of many long scripts; and of each of their acts the list up to it, with that one changed.
func TestLongScripts(t *testing.T) {
	next := numbers()
	written := 0
	for range 60 {
		x := paired()
		for range 80 {
			client := next(5) - next(20)/19
			seq := 0
			if last, ok := x.m.last(client); ok {
				seq = last.Seq
			}
			if next(2) == 0 {
				x.ask(t, random(next, client, seq+next(5)-next(3)/2))
			} else {
				x.answer(t, client, seq-next(20)/19, randomReply(next), next(100)-next(20)/19)
			}
			wantPast(t, x.p, x.m.acts, x.m.pending()...)
			if t.Failed() {
				return
			}
		}
		written += len(x.m.acts)
		wantMayAsPlain(t, next, x.p.Acts())
	}
	if written < 60*20 {
		t.Errorf("only %d acts in all", written)
	}
}

// wantMayAsPlain fails unless May tells what the plain model tells of lists that differ from one in one act.
func wantMayAsPlain(t *testing.T, next func(n int) int, l []api.Act) {
	t.Helper()
	for k := range l {
		for _, b := range changed(l[k]) {
			other := slices.Clone(l)
			other[k] = b
			wantMay(t, other, may(other))
		}
		for _, other := range [][]api.Act{
			slices.Delete(slices.Clone(l), k, k+1), slices.Insert(slices.Clone(l), next(len(l)+1), l[k]), swapped(l, k, next(len(l))), swapped(l, k, min(k+1, len(l)-1)), l[k:],
		} {
			wantMay(t, other, may(other))
		}
	}
}

// swapped answers a list in which two acts have changed places.
func swapped(l []api.Act, a, b int) []api.Act {
	l = slices.Clone(l)
	l[a], l[b] = l[b], l[a]
	return l
}

// chosen are acts of which lists are made: of two clients; some may never be.
func chosen() []api.Act {
	one, two, three := create(0, 1, 3, "a"), read(0, 2, 3), history(1, 1, 3)
	r := api.Reply{Code: api.RDone, Version: 1}
	strange := told(one, r, 1)
	strange.Req = two
	early := asks(two)
	early.At = 1
	return []api.Act{
		asks(one), asks(two), asks(three), told(one, r, 1), told(one, api.Reply{}, 0), told(two, r, 1), told(three, api.Reply{Versions: []int{1}}, 2),
		told(one, r, -1), asks(read(0, 3, -1)), strange, early, {Answer: true}, {},
	}
}

// Each list of so many of them.
func TestMayOfEachShortList(t *testing.T) {
	all, right := [][]api.Act{nil}, 0
	for range 4 {
		var longer [][]api.Act
		for _, l := range all {
			for _, a := range chosen() {
				longer = append(longer, append(slices.Clone(l), a))
			}
		}
		for _, l := range longer {
			want := may(l)
			if past.May(l) != want {
				t.Fatalf("May(%v): %t", l, !want)
			}
			if want {
				right++
			}
		}
		all = longer
	}
	if right < 40 {
		t.Errorf("only %d lists may be", right)
	}
}

// A long past is told as fast as a short one: this would not end soon, if all were gone over at each call.
func TestLongPast(t *testing.T) {
	const long = 200_000
	p := past.New()
	for k := range long {
		q := read(k%api.MaxClients, 1+k, k%32)
		wantAsk(t, p, q, api.OK)
		if k%7 > 0 {
			wantAsk(t, p, q, api.ErrState)
			wantAnswer(t, p, q.Client, q.Seq+1, api.Reply{}, 1, api.ErrState)
		}
		if got := p.Pending(); len(got) != 1 || got[0] != q {
			t.Fatalf("Pending: %v", got)
		}
		wantAnswer(t, p, q.Client, q.Seq, api.Reply{Code: api.RNone}, k, api.OK)
		wantAsk(t, p, q, api.ErrOrder)
	}
	acts := p.Acts()
	if len(acts) != 2*long || !past.May(acts) {
		t.Errorf("%d acts; May: %t", len(acts), past.May(acts))
	}
	acts[2*long-1].At = math.MaxInt
	if past.May(acts) {
		t.Error("the last one may not be")
	}
}
