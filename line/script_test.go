package line_test

import (
	"bytes"
	"math"
	"slices"
	"strings"
	"testing"

	"casebook/api"
	"casebook/line"
	"casebook/store"
)

// plain is one told by the chapter's words: a list of requests, of which all is found by going over it.
type plain struct {
	quota, committed int
	all              []api.Req
}

// mayStand tells which requests write and may be, by the words of chapter 2.
func mayStand(q api.Req) bool {
	return slices.Contains([]int{0, 1, 2, 3}, q.Client) &&
		q.Seq >= 1 && q.Seq <= 1<<30 &&
		q.Id >= 0 && q.Id <= 31 &&
		q.Match >= 0 && q.Match <= 100 &&
		(q.Kind == api.OpCreate && q.Match == 0 && len(q.Data) <= 64 ||
			q.Kind == api.OpUpdate && len(q.Data) <= 64 ||
			q.Kind == api.OpDelete && q.Data == "")
}

func (p *plain) put(q api.Req) (int, int) {
	if !mayStand(q) {
		return 0, api.ErrArg
	}
	if q.Seq <= p.seq(q.Client) {
		return 0, api.ErrOrder
	}
	p.all = append(p.all, q)
	return len(p.all), api.OK
}

func (p *plain) take(at int, q api.Req) int {
	if at != len(p.all)+1 {
		return api.ErrOrder
	}
	_, e := p.put(q)
	return e
}

func (p *plain) commit(n int) int {
	if n < p.committed || n > len(p.all) {
		return api.ErrRange
	}
	p.committed = n
	return api.OK
}

func (p *plain) since(n, most int) []api.Req {
	var l []api.Req
	for k, q := range p.all {
		if n >= 0 && k >= n && len(l) < most {
			l = append(l, q)
		}
	}
	return l
}

func (p *plain) find(client, seq int) (int, bool) {
	for k, q := range p.all {
		if q.Client == client && q.Seq == seq {
			return k + 1, true
		}
	}
	return 0, false
}

func (p *plain) seq(client int) int {
	last := 0
	for _, q := range p.all {
		if q.Client == client {
			last = q.Seq
		}
	}
	return last
}

func (p *plain) last(id int) int {
	last := 0
	for k, q := range p.all {
		if q.Id == id {
			last = k + 1
		}
	}
	return last
}

// done answers a store in which the committed ones were Put, and what each of them was told.
func (p *plain) done(t *testing.T) (*store.Store, []api.Reply) {
	t.Helper()
	s, e := store.New(p.quota)
	if e != api.OK {
		t.Fatalf("no store: %d", e)
	}
	var replies []api.Reply
	for _, q := range p.all[:p.committed] {
		reply, e := s.Put(q)
		if e != api.OK {
			t.Fatalf("%v: Put of %v: %d", p.all, q, e)
		}
		replies = append(replies, reply)
	}
	return s, replies
}

func sameReply(a, b api.Reply) bool {
	return a.Code == b.Code && a.Version == b.Version && a.Data == b.Data && slices.Equal(a.Versions, b.Versions)
}

// some answers numbers around those from 0 to size, and far off; of a great size not all that are between.
func some(size int) []int {
	l := []int{math.MinInt, -1 << 32, -1, 0, 1, size - 1, size, size + 1, size + 2, 1 << 32, math.MaxInt - 1, math.MaxInt}
	for n := 2; n < size-1; n += 1 + size/8 {
		l = append(l, n)
	}
	return l
}

// wantSame fails unless both tell the same.
func wantSame(t *testing.T, l *line.Line, p *plain) {
	t.Helper()
	if l.Len() != len(p.all) || l.Committed() != p.committed {
		t.Fatalf("%v: Len %d, Committed %d; not %d, %d", p.all, l.Len(), l.Committed(), len(p.all), p.committed)
	}
	wantSameLists(t, l, p)
	wantSameNumbers(t, l, p)
	wantSameReplies(t, l, p)
}

func wantSameLists(t *testing.T, l *line.Line, p *plain) {
	t.Helper()
	for _, n := range some(len(p.all)) {
		for _, most := range some(len(p.all)) {
			if got, want := l.Since(n, most), p.since(n, most); !slices.Equal(got, want) {
				t.Fatalf("%v: Since(%d, %d): %v; not %v", p.all, n, most, got, want)
			}
		}
	}
}

func wantSameNumbers(t *testing.T, l *line.Line, p *plain) {
	t.Helper()
	for _, client := range some(api.MaxClients) {
		last := p.seq(client)
		if got := l.Seq(client); got != last {
			t.Fatalf("%v: Seq(%d): %d; not %d", p.all, client, got, last)
		}
		for _, seq := range some(last) {
			place, ok := p.find(client, seq)
			if got, found := l.Find(client, seq); got != place || found != ok {
				t.Fatalf("%v: Find(%d, %d): %d, %t; not %d, %t", p.all, client, seq, got, found, place, ok)
			}
		}
	}
	for k, q := range p.all {
		if place, ok := l.Find(q.Client, q.Seq); place != k+1 || !ok {
			t.Fatalf("%v: Find(%d, %d): %d, %t", p.all, q.Client, q.Seq, place, ok)
		}
	}
	for _, id := range some(api.MaxId) {
		if got, want := l.Last(id), p.last(id); got != want {
			t.Fatalf("%v: Last(%d): %d; not %d", p.all, id, got, want)
		}
	}
}

func wantSameReplies(t *testing.T, l *line.Line, p *plain) {
	t.Helper()
	s, replies := p.done(t)
	if got := l.Store(); got == nil || !bytes.Equal(got.Bytes(), s.Bytes()) {
		t.Fatalf("%v: Store: %x; not %x", p.all[:p.committed], got.Bytes(), s.Bytes())
	}
	for _, at := range append(some(p.committed), some(len(p.all))...) {
		got, e := l.Reply(at)
		var want api.Reply
		wrong := api.ErrRange
		if at >= 1 && at <= p.committed {
			want, wrong = replies[at-1], api.OK
		}
		if !sameReply(got, want) || e != wrong {
			t.Fatalf("%v: Reply(%d): %v, %d; not %v, %d", p.all, at, got, e, want, wrong)
		}
	}
}

// pair is a line and its model.
type pair struct {
	l *line.Line
	p *plain
}

func paired(t *testing.T, quota int) pair {
	t.Helper()
	return pair{opened(t, quota), &plain{quota: quota}}
}

func (x pair) put(t *testing.T, q api.Req) {
	t.Helper()
	want, wrong := x.p.put(q)
	if got, e := x.l.Put(q); got != want || e != wrong {
		t.Fatalf("Put of %v: %d, %d; not %d, %d", q, got, e, want, wrong)
	}
}

func (x pair) take(t *testing.T, at int, q api.Req) {
	t.Helper()
	want := x.p.take(at, q)
	if e := x.l.Take(at, q); e != want {
		t.Fatalf("Take of %d, %v: %d; not %d", at, q, e, want)
	}
}

func (x pair) commit(t *testing.T, n int) {
	t.Helper()
	want := x.p.commit(n)
	if e := x.l.Commit(n); e != want {
		t.Fatalf("Commit of %d: %d; not %d", n, e, want)
	}
}

// moves are calls, of which scripts are made.
func moves(t *testing.T) []func(pair) {
	puts := func(q api.Req) func(pair) { return func(x pair) { x.put(t, q) } }
	takes := func(at int, q api.Req) func(pair) { return func(x pair) { x.take(t, at, q) } }
	commits := func(n int) func(pair) { return func(x pair) { x.commit(t, n) } }
	return []func(pair){
		puts(create(0, 1, 3, "a")),
		puts(update(0, 2, 3, 1, "b")),
		puts(create(1, 5, 3, "c")),
		puts(remove(1, 7, 0, 0)),
		puts(read(2, 1, 3)),
		takes(1, create(2, 4, 31, "d")),
		takes(2, update(0, 3, 3, 0, "e")),
		takes(3, create(1, 6, 0, "")),
		takes(2, create(2, 1, 32, "f")),
		commits(0),
		commits(1),
		commits(2),
		commits(3),
	}
}

// Behind each script of some chosen calls.
func TestEachShortScript(t *testing.T) {
	calls := moves(t)
	const long = 4
	scripts := 1
	for range long {
		scripts *= len(calls)
	}
	for script := range scripts {
		x := paired(t, 2)
		for left, k := script, 0; k < long; left, k = left/len(calls), k+1 {
			calls[left%len(calls)](x)
		}
		wantSame(t, x.l, x.p)
	}
}

// numbers answers a call that answers numbers from 0 to below n, the same ones in each run.
func numbers() func(n int) int {
	state := uint64(1)
	return func(n int) int {
		state = state*6364136223846793005 + 1442695040888963407
		return int((state >> 33) % uint64(n))
	}
}

// random answers a request, now and then one that may not stand, or an old one.
func random(next func(n int) int, at int) api.Req {
	q := api.Req{Client: next(api.MaxClients), Seq: 1 + at + next(6) - next(6), Id: []int{0, 1, 2, 30, 31}[next(5)]}
	switch q.Kind = 1 + next(3); q.Kind {
	case api.OpCreate:
		q.Data = strings.Repeat("c", next(3))
	case api.OpUpdate:
		q.Match, q.Data = next(4), strings.Repeat("u", next(api.MaxData+1))
	case api.OpDelete:
		q.Match = next(4)
	}
	switch next(30) {
	case 0:
		q.Kind = []int{0, 4, 5, 6, 7}[next(5)]
	case 1:
		q.Id = []int{-1, 32, 40}[next(3)]
	case 2:
		q.Client = []int{-1, 4, 9}[next(3)]
	case 3:
		q.Data = strings.Repeat("d", api.MaxData+1)
	}
	return q
}

// Behind each call of many long scripts.
func TestLongScripts(t *testing.T) {
	next := numbers()
	long, quotas := 0, []int{1, 2, 5, api.MaxQuota}
	for script := range 60 {
		x := paired(t, quotas[script%len(quotas)])
		for range 150 {
			q := random(next, len(x.p.all))
			switch next(8) {
			case 0, 1, 2:
				x.put(t, q)
			case 3, 4:
				x.take(t, len(x.p.all)+1, q)
			case 5:
				x.take(t, len(x.p.all)-next(4)+2, q)
			default:
				x.commit(t, x.p.committed+next(6)-1)
			}
			wantSame(t, x.l, x.p)
		}
		long += len(x.p.all)
	}
	if long < 60*50 {
		t.Errorf("only %d requests stood in all", long)
	}
}
