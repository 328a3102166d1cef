package past_test

import (
	"fmt"
	"math"
	"slices"
	"strings"
	"testing"

	"casebook/api"
	"casebook/past"
)

func create(client, seq, id int, data string) api.Req {
	return api.Req{Client: client, Seq: seq, Kind: api.OpCreate, Id: id, Data: data}
}

func update(client, seq, id, match int, data string) api.Req {
	return api.Req{Client: client, Seq: seq, Kind: api.OpUpdate, Id: id, Match: match, Data: data}
}

func remove(client, seq, id, match int) api.Req {
	return api.Req{Client: client, Seq: seq, Kind: api.OpDelete, Id: id, Match: match}
}

func read(client, seq, id int) api.Req {
	return api.Req{Client: client, Seq: seq, Kind: api.OpRead, Id: id}
}

func version(client, seq, id, match int) api.Req {
	return api.Req{Client: client, Seq: seq, Kind: api.OpVersion, Id: id, Match: match}
}

func history(client, seq, id int) api.Req {
	return api.Req{Client: client, Seq: seq, Kind: api.OpHistory, Id: id}
}

// kinds answers a request of each kind, of a client, with a Seq.
func kinds(client, seq int) []api.Req {
	most := strings.Repeat("d", api.MaxData)
	return []api.Req{
		create(client, seq, 0, ""), create(client, seq, api.MaxId, most), update(client, seq, 3, 0, ""), update(client, seq, 3, api.MaxQuota, most),
		remove(client, seq, 3, 0), remove(client, seq, api.MaxId, api.MaxQuota),
		read(client, seq, 0), version(client, seq, 3, 1), version(client, seq, 3, api.MaxQuota), history(client, seq, api.MaxId),
	}
}

func noClients() []int {
	return []int{math.MinInt, math.MinInt + 1, -1 << 32, -api.MaxClients, -1, api.MaxClients, api.MaxClients + 1, 1 << 32, 1<<32 + 1, math.MaxInt}
}

func noSeqs() []int {
	return []int{math.MinInt, -1 << 32, -1, 0, api.MaxSeq + 1, api.MaxSeq + 2, 1 << 32, 1<<32 + 7, math.MaxInt}
}

func noPlaces() []int {
	return []int{math.MinInt, math.MinInt + 1, -1 << 32, -api.MaxSeq, -2, -1, api.MaxSeq + 1, api.MaxSeq + 2, 1 << 32, 1<<32 + 1, math.MaxInt - 1, math.MaxInt}
}

// never has requests that may not be: but for the one thing that is wrong they are of this client, of this Seq, of the id 3.
func never(client, seq int) []api.Req {
	long := strings.Repeat("d", api.MaxData+1)
	l := []api.Req{
		{}, {Client: client, Seq: seq, Id: 3},
		{Client: client, Seq: seq, Kind: api.OpCreate, Id: 3, Match: 1},
		{Client: client, Seq: seq, Kind: api.OpRead, Id: 3, Match: 1},
		{Client: client, Seq: seq, Kind: api.OpHistory, Id: 3, Match: 1},
		{Client: client, Seq: seq, Kind: api.OpDelete, Id: 3, Data: "d"},
		{Client: client, Seq: seq, Kind: api.OpRead, Id: 3, Data: "d"},
		{Client: client, Seq: seq, Kind: api.OpVersion, Id: 3, Match: 1, Data: "d"},
		{Client: client, Seq: seq, Kind: api.OpHistory, Id: 3, Data: "d"},
		create(client, seq, 3, long), update(client, seq, 3, 1, long), version(client, seq, 3, 0), version(client, seq, 3, api.MaxQuota+1),
		update(client, seq, 3, -1, ""), update(client, seq, 3, api.MaxQuota+1, ""), remove(client, seq, 3, -1), remove(client, seq, 3, api.MaxQuota+1),
	}
	for _, kind := range []int{math.MinInt, -1, 0, 7, 1<<32 + 1, math.MaxInt} {
		l = append(l, api.Req{Client: client, Seq: seq, Kind: kind, Id: 3})
	}
	for _, none := range noClients() {
		l = append(l, kinds(none, seq)...)
	}
	for _, none := range noSeqs() {
		l = append(l, kinds(client, none)...)
	}
	for _, id := range []int{math.MinInt, -1, api.MaxId + 1, 1 << 32, 1<<32 + 3, math.MaxInt} {
		l = append(l, create(client, seq, id, ""), remove(client, seq, id, 0), read(client, seq, id), version(client, seq, id, 1), history(client, seq, id))
	}
	return l
}

// replies are such as a store tells, and such as none does.
func replies() []api.Reply {
	return []api.Reply{
		{}, {Code: api.RDone, Version: 1}, {Code: api.RDone, Version: 2, Data: "b"}, {Code: api.RGone, Version: 3},
		{Code: api.RDone, Version: 2, Data: "b", Versions: []int{1, 2}}, {Versions: []int{0, -7}}, {Code: api.RDone, Versions: []int{}},
		{Code: -1, Version: math.MinInt, Data: strings.Repeat("x", 1000), Versions: []int{math.MaxInt, math.MinInt}}, {Code: 99, Version: math.MaxInt},
	}
}

// asks and told are the acts that the chapter tells of.
func asks(q api.Req) api.Act { return api.Act{Client: q.Client, Seq: q.Seq, Req: q} }

func told(q api.Req, r api.Reply, at int) api.Act {
	return api.Act{Client: q.Client, Seq: q.Seq, Answer: true, Req: q, Reply: r, At: at}
}

func sameAct(a, b api.Act) bool {
	return a.Client == b.Client && a.Seq == b.Seq && a.Answer == b.Answer && a.Req == b.Req && a.At == b.At &&
		a.Reply.Code == b.Reply.Code && a.Reply.Version == b.Reply.Version && a.Reply.Data == b.Reply.Data && slices.Equal(a.Reply.Versions, b.Reply.Versions)
}

// wantPast fails unless just these acts were written down, and just these requests wait; and unless such acts may be.
func wantPast(t *testing.T, p *past.Past, acts []api.Act, pending ...api.Req) {
	t.Helper()
	if got := p.Acts(); !slices.EqualFunc(got, acts, sameAct) {
		t.Errorf("Acts: %v; not %v", got, acts)
	}
	if got := p.Pending(); !slices.Equal(got, pending) {
		t.Errorf("Pending: %v; not %v", got, pending)
	}
	if !past.May(p.Acts()) {
		t.Errorf("May(%v)", p.Acts())
	}
}

func wantAsk(t *testing.T, p *past.Past, q api.Req, want int) {
	t.Helper()
	if e := p.Ask(q); e != want {
		t.Errorf("Ask of %v: %d; not %d", q, e, want)
	}
}

func wantAnswer(t *testing.T, p *past.Past, client, seq int, r api.Reply, at, want int) {
	t.Helper()
	if e := p.Answer(client, seq, r, at); e != want {
		t.Errorf("Answer to %d, %d: %v, %d: %d; not %d", client, seq, r, at, e, want)
	}
}

// 22.1: New, Ask

func TestNewIsEmpty(t *testing.T) {
	p := past.New()
	if p == nil {
		t.Fatal("nil")
	}
	wantPast(t, p, nil)
}

func TestNewOnesAreApart(t *testing.T) {
	p, q := past.New(), past.New()
	wantAsk(t, p, create(1, 1, 3, "a"), api.OK)
	wantPast(t, q, nil)
	wantAsk(t, q, create(1, 1, 4, "b"), api.OK)
	wantPast(t, p, []api.Act{asks(create(1, 1, 3, "a"))}, create(1, 1, 3, "a"))
}

// Each kind, of each client, with the first Seq and the last one.
func TestAskIsWrittenDown(t *testing.T) {
	for client := range api.MaxClients {
		for _, seq := range []int{1, 2, 7, api.MaxSeq - 1, api.MaxSeq} {
			for _, q := range kinds(client, seq) {
				p := past.New()
				wantAsk(t, p, q, api.OK)
				wantPast(t, p, []api.Act{asks(q)}, q)
			}
		}
	}
}

func TestAskOfWhatMayNotBe(t *testing.T) {
	p, waits := past.New(), create(1, 7, 5, "w")
	for _, q := range never(1, 7) {
		wantAsk(t, p, q, api.ErrArg)
		wantPast(t, p, nil)
	}
	wantAsk(t, p, waits, api.OK)
	for _, seq := range []int{6, 7, 8} { // while it waits, and of old ones: that it may not be is told first
		for _, q := range never(1, seq) {
			wantAsk(t, p, q, api.ErrArg)
		}
	}
	wantPast(t, p, []api.Act{asks(waits)}, waits)
	wantAnswer(t, p, 1, 7, api.Reply{}, 0, api.OK)
	for _, seq := range []int{6, 7, 8} {
		for _, q := range never(1, seq) {
			wantAsk(t, p, q, api.ErrArg)
		}
	}
	wantPast(t, p, []api.Act{asks(waits), told(waits, api.Reply{}, 0)})
}

// That it waits is told ahead of that its Seq is an old one.
func TestAskWhileItWaits(t *testing.T) {
	for client := range api.MaxClients {
		p, waits := past.New(), create(client, 7, 5, "w")
		wantAsk(t, p, waits, api.OK)
		for _, seq := range []int{1, 6, 7, 8, 9, api.MaxSeq} {
			for _, q := range kinds(client, seq) {
				wantAsk(t, p, q, api.ErrState)
			}
		}
		wantAsk(t, p, waits, api.ErrState)
		wantPast(t, p, []api.Act{asks(waits)}, waits)
	}
}

func TestAskOfOldOnes(t *testing.T) {
	for client := range api.MaxClients {
		for _, last := range []int{1, 2, 7, api.MaxSeq - 1, api.MaxSeq} {
			p, first := past.New(), create(client, last, 5, "w")
			acts := []api.Act{asks(first), told(first, api.Reply{Code: api.RDone, Version: 1}, 4)}
			wantAsk(t, p, first, api.OK)
			wantAnswer(t, p, client, last, api.Reply{Code: api.RDone, Version: 1}, 4, api.OK)
			for _, seq := range []int{1, 2, 6, 7, last - 1, last} {
				if seq < 1 || seq > last {
					continue
				}
				for _, q := range kinds(client, seq) {
					wantAsk(t, p, q, api.ErrOrder)
				}
			}
			wantPast(t, p, acts)
			if last == api.MaxSeq {
				continue
			}
			wantAsk(t, p, read(client, last+1, 5), api.OK)
			wantPast(t, p, append(acts, asks(read(client, last+1, 5))), read(client, last+1, 5))
		}
	}
}

// It is above the last one, not just the next one; each client has its own.
func TestAskWithGaps(t *testing.T) {
	p := past.New()
	var acts []api.Act
	for k, seqs := range [][]int{{1, 2, 3, 4}, {5, 7, 100, 101}, {1 << 20, 1<<20 + 1, 1 << 29, api.MaxSeq}, {3, api.MaxSeq - 2, api.MaxSeq - 1, api.MaxSeq}} {
		for _, seq := range seqs {
			q := update(k, seq, 3, 0, "a")
			wantAsk(t, p, q, api.OK)
			wantAnswer(t, p, k, seq, api.Reply{Code: api.RNone}, seq, api.OK)
			acts = append(acts, asks(q), told(q, api.Reply{Code: api.RNone}, seq))
			wantPast(t, p, acts)
		}
	}
}

// What is asked in vain counts for nothing: not as the client's last one.
func TestRefusedOnesAreForgotten(t *testing.T) {
	p := past.New()
	wantAsk(t, p, create(1, 3, 5, "a"), api.OK)
	wantAsk(t, p, create(1, 9, 5, "a"), api.ErrState)
	wantAnswer(t, p, 1, 9, api.Reply{}, 0, api.ErrState)
	wantAnswer(t, p, 1, 3, api.Reply{}, 0, api.OK)
	wantAsk(t, p, create(1, 3, 5, "a"), api.ErrOrder)
	wantAsk(t, p, create(1, 4, 5, "a"), api.OK)
	wantPast(t, p, []api.Act{asks(create(1, 3, 5, "a")), told(create(1, 3, 5, "a"), api.Reply{}, 0), asks(create(1, 4, 5, "a"))}, create(1, 4, 5, "a"))
}

// 22.1: Answer

// Answer ahead of Ask: ErrState.
func TestExampleOfTheDocument(t *testing.T) {
	p := past.New()
	if e := p.Answer(1, 1, api.Reply{Code: api.RDone, Version: 1}, 1); e != api.ErrState {
		t.Errorf("%d", e)
	}
	wantPast(t, p, nil)
}

// Any reply, at each place that may be.
func TestAnswerIsWrittenDown(t *testing.T) {
	for _, r := range replies() {
		for _, at := range []int{0, 1, 2, 7, 1 << 29, api.MaxSeq - 1, api.MaxSeq} {
			for client := range api.MaxClients {
				for _, q := range kinds(client, 7) {
					p := past.New()
					wantAsk(t, p, q, api.OK)
					wantAnswer(t, p, client, 7, r, at, api.OK)
					wantPast(t, p, []api.Act{asks(q), told(q, r, at)})
				}
			}
		}
	}
}

// That is told first, also where nobody waits.
func TestAnswerAtNoPlace(t *testing.T) {
	for _, at := range noPlaces() {
		p, q := past.New(), create(1, 7, 3, "a")
		wantAnswer(t, p, 1, 7, api.Reply{}, at, api.ErrArg)
		wantAsk(t, p, q, api.OK)
		for _, client := range append(noClients(), 0, 1, 2, 3) {
			for _, seq := range append(noSeqs(), 1, 6, 7, 8, api.MaxSeq) {
				wantAnswer(t, p, client, seq, api.Reply{}, at, api.ErrArg)
			}
		}
		wantPast(t, p, []api.Act{asks(q)}, q)
	}
}

func TestAnswerToWhatDoesNotWait(t *testing.T) {
	p, one, two := past.New(), create(1, 7, 3, "a"), read(2, 9, 3)
	wantAsk(t, p, one, api.OK)
	wantAsk(t, p, two, api.OK)
	waits := map[[2]int]bool{{1, 7}: true, {2, 9}: true}
	for _, client := range append(noClients(), 0, 1, 2, 3) {
		for _, seq := range append(noSeqs(), 1, 6, 7, 8, 9, 10, api.MaxSeq) {
			if waits[[2]int{client, seq}] {
				continue
			}
			for _, r := range replies()[:3] {
				wantAnswer(t, p, client, seq, r, 5, api.ErrState)
			}
		}
	}
	wantPast(t, p, []api.Act{asks(one), asks(two)}, one, two)
}

func TestAnswerTwice(t *testing.T) {
	for client := range api.MaxClients {
		p, q := past.New(), create(client, 7, 3, "a")
		wantAsk(t, p, q, api.OK)
		wantAnswer(t, p, client, 7, api.Reply{Code: api.RDone}, 1, api.OK)
		for _, seq := range append(noSeqs(), 1, 6, 7, 8) {
			wantAnswer(t, p, client, seq, api.Reply{Code: api.RDone}, 1, api.ErrState)
		}
		wantPast(t, p, []api.Act{asks(q), told(q, api.Reply{Code: api.RDone}, 1)})
	}
}

// A new past waits for nothing: not for the Seq 0 either, which clients have that asked nothing.
func TestAnswerToNobody(t *testing.T) {
	p := past.New()
	for _, client := range append(noClients(), 0, 1, 2, 3) {
		for _, seq := range append(noSeqs(), 1, 7) {
			wantAnswer(t, p, client, seq, api.Reply{}, 0, api.ErrState)
		}
	}
	wantPast(t, p, nil)
}

// What is handed in is not kept.
func TestAnswerKeepsItsOwn(t *testing.T) {
	p, q := past.New(), history(1, 7, 3)
	versions := make([]int, 3, 10)
	copy(versions, []int{1, 2, 3})
	wantAsk(t, p, q, api.OK)
	wantAnswer(t, p, 1, 7, api.Reply{Code: api.RDone, Version: 3, Versions: versions}, 4, api.OK)
	want := []api.Act{asks(q), told(q, api.Reply{Code: api.RDone, Version: 3, Versions: []int{1, 2, 3}}, 4)}
	wantPast(t, p, want)
	if !slices.Equal(versions[:cap(versions)], []int{1, 2, 3, 0, 0, 0, 0, 0, 0, 0}) {
		t.Errorf("%v", versions[:cap(versions)])
	}
	versions[1] = 77
	wantPast(t, p, want)
}

// 22.1: Acts, Pending

func TestActsAndPendingOfManyClients(t *testing.T) {
	p := past.New()
	one, two, three, four := create(3, 1, 3, "a"), read(0, 5, 3), remove(2, 2, 3, 1), history(1, 1, 3)
	for _, q := range []api.Req{one, two, three, four} {
		wantAsk(t, p, q, api.OK)
	}
	acts := []api.Act{asks(one), asks(two), asks(three), asks(four)}
	wantPast(t, p, acts, two, four, three, one) // by client
	r := api.Reply{Code: api.RDone, Version: 1, Data: "a"}
	wantAnswer(t, p, 2, 2, r, 2, api.OK)
	acts = append(acts, told(three, r, 2))
	wantPast(t, p, acts, two, four, one)
	wantAnswer(t, p, 0, 5, r, 1, api.OK) // a lesser place than the one ahead
	acts = append(acts, told(two, r, 1))
	wantPast(t, p, acts, four, one)
	five := version(0, 6, 3, 1)
	wantAsk(t, p, five, api.OK)
	acts = append(acts, asks(five))
	wantPast(t, p, acts, five, four, one)
	wantAnswer(t, p, 3, 1, r, 1, api.OK)
	wantAnswer(t, p, 1, 1, r, 9, api.OK)
	acts = append(acts, told(one, r, 1), told(four, r, 9))
	wantPast(t, p, acts, five)
	wantAnswer(t, p, 0, 6, r, 0, api.OK)
	wantPast(t, p, append(acts, told(five, r, 0)))
}

// What is answered is the caller's own, and no two lists of it share anything.
func TestActsAreNewEachTime(t *testing.T) {
	p, q := past.New(), history(1, 7, 3)
	r := api.Reply{Code: api.RDone, Version: 2, Versions: []int{1, 2}}
	for k := range 3 {
		q.Seq = 7 + k
		wantAsk(t, p, q, api.OK)
		wantAnswer(t, p, 1, 7+k, r, 4, api.OK)
	}
	wantAsk(t, p, read(2, 1, 3), api.OK)
	one, two, waits := p.Acts(), p.Acts(), p.Pending()
	for k := range one {
		one[k].Seq = 77
		for i := range one[k].Reply.Versions {
			one[k].Reply.Versions[i] = 78
		}
		_ = append(one[k].Reply.Versions[:0], 79, 80, 81)
	}
	_ = append(one[:1], api.Act{}, api.Act{})
	waits[0] = api.Req{}
	wantPast(t, p, two, read(2, 1, 3))
	two[1].Reply.Versions[0] = 77
	if two[3].Reply.Versions[0] != 1 || two[5].Reply.Versions[0] != 1 {
		t.Errorf("%v", two)
	}
	if got := p.Acts(); got[1].Reply.Versions[0] != 1 {
		t.Errorf("%v", got)
	}
}

func TestToldTwiceIsTheSame(t *testing.T) {
	p, q := past.New(), create(1, 7, 3, "a")
	wantAsk(t, p, q, api.OK)
	for range 3 {
		wantPast(t, p, []api.Act{asks(q)}, q)
	}
}

// 22.1: May

// wantMay fails unless May tells this of a list, and leaves it as it is.
func wantMay(t *testing.T, l []api.Act, want bool) {
	t.Helper()
	before := fmt.Sprint(l)
	if got := past.May(l); got != want {
		t.Errorf("May(%v): %t", l, got)
	}
	if fmt.Sprint(l) != before {
		t.Errorf("%s became %v", before, l)
	}
}

// some answers acts that may be, of which each is needed for those behind it.
func some() []api.Act {
	one, two, three := create(1, 7, 3, "a"), history(2, 1, 3), update(1, 9, 3, 1, "b")
	return []api.Act{
		asks(one), asks(two), told(one, api.Reply{Code: api.RDone, Version: 1}, 1), asks(three),
		told(two, api.Reply{Code: api.RDone, Version: 1, Versions: []int{1}}, 1), told(three, api.Reply{Code: api.RDone, Version: 2}, 2),
	}
}

func TestMayOfWhatWasWritten(t *testing.T) {
	wantMay(t, nil, true)
	wantMay(t, []api.Act{}, true)
	for size := range len(some()) + 1 {
		wantMay(t, some()[:size], true)
	}
}

func TestMayOfEachAskAndAnswer(t *testing.T) {
	for client := range api.MaxClients {
		for _, seq := range []int{1, 7, api.MaxSeq} {
			for _, q := range kinds(client, seq) {
				wantMay(t, []api.Act{asks(q)}, true)
				for _, r := range replies() {
					for _, at := range []int{0, 1, api.MaxSeq} {
						wantMay(t, []api.Act{asks(q), told(q, r, at)}, true)
					}
					wantMay(t, []api.Act{told(q, r, 1)}, false)
					wantMay(t, []api.Act{asks(q), told(q, r, 1), told(q, r, 1)}, false)
					for _, at := range noPlaces() {
						wantMay(t, []api.Act{asks(q), told(q, r, at)}, false)
					}
				}
				wantMay(t, []api.Act{asks(q), asks(q)}, false)
				wantMay(t, []api.Act{asks(q), told(q, api.Reply{}, 0), asks(q)}, false)
			}
		}
	}
	for _, q := range never(1, 7) {
		wantMay(t, []api.Act{asks(q)}, false)
		wantMay(t, []api.Act{asks(q), told(q, api.Reply{}, 0)}, false)
	}
}

// An act is written once, in its turn.
func TestMayOfActsOutOfTheirTurn(t *testing.T) {
	for k := range some() {
		l := some()
		wantMay(t, slices.Insert(l, k, l[k]), false)
		wantMay(t, slices.Delete(some(), k, k+1), k >= 4) // the last two answers may lack: the client only waits on
	}
	l := some()
	slices.Reverse(l)
	wantMay(t, l, false)
	l = some()
	l[0], l[1] = l[1], l[0] // asked at the same time: in either order
	wantMay(t, l, true)
	l = some()
	l[2], l[3] = l[3], l[2] // asked while it waits
	wantMay(t, l, false)
}

// changed answers acts that differ from one in one part.
func changed(a api.Act) []api.Act {
	var l []api.Act
	add := func(change func(b *api.Act)) {
		b := a
		change(&b)
		l = append(l, b)
	}
	add(func(b *api.Act) { b.Client++ })
	add(func(b *api.Act) { b.Client = 0 })
	add(func(b *api.Act) { b.Client = -1 })
	add(func(b *api.Act) { b.Client = api.MaxClients })
	add(func(b *api.Act) { b.Seq++ })
	add(func(b *api.Act) { b.Seq-- })
	add(func(b *api.Act) { b.Seq = 0 })
	add(func(b *api.Act) { b.Answer = !b.Answer })
	add(func(b *api.Act) { b.Req.Client = 3 })
	add(func(b *api.Act) { b.Req.Seq++ })
	add(func(b *api.Act) { b.Req.Seq = 0 })
	add(func(b *api.Act) { b.Req.Kind = 0 })
	add(func(b *api.Act) { b.Req.Id = -1 })
	add(func(b *api.Act) { b.Req.Match = -1 })
	add(func(b *api.Act) { b.Req.Data += strings.Repeat("d", api.MaxData+1) })
	add(func(b *api.Act) { b.At = -1 })
	add(func(b *api.Act) { b.At = api.MaxSeq + 1 })
	add(func(b *api.Act) { b.Req = api.Req{} })
	return l
}

func TestMayOfChangedActs(t *testing.T) {
	for k, a := range some() {
		for _, b := range changed(a) {
			l := some()[:k+1]
			l[k] = b
			wantMay(t, l, false)
		}
	}
}

// The request of an answer is the one that was asked, in all parts.
func TestMayOfAnswersToOtherRequests(t *testing.T) {
	q := update(1, 7, 3, 1, "b")
	for _, other := range append(kinds(1, 7), update(1, 7, 4, 1, "b"), update(1, 7, 3, 2, "b"), update(1, 7, 3, 1, "c"), update(1, 7, 3, 0, "b"), update(2, 7, 3, 1, "b"), update(1, 8, 3, 1, "b")) {
		b := told(q, api.Reply{}, 1)
		b.Req = other
		wantMay(t, []api.Act{asks(q), b}, false)
		b = told(other, api.Reply{}, 1)
		b.Client, b.Seq = 1, 7
		wantMay(t, []api.Act{asks(q), b}, false)
	}
}

// Who asks is told nothing yet: parts that are not named are zero.
func TestMayOfAsksThatTell(t *testing.T) {
	for _, q := range kinds(1, 7) {
		for _, r := range []api.Reply{{Code: 1}, {Code: -1}, {Version: 1}, {Data: "a"}, {Versions: []int{1}}, {Versions: []int{0}}} {
			a := asks(q)
			a.Reply = r
			wantMay(t, []api.Act{a}, false)
		}
		for _, at := range []int{math.MinInt, -1, 1, 7, api.MaxSeq, math.MaxInt} {
			a := asks(q)
			a.At = at
			wantMay(t, []api.Act{a}, false)
		}
		a := asks(q)
		a.Reply.Versions = []int{} // no list is an empty one
		wantMay(t, []api.Act{a}, true)
	}
}

// Of nil, and of ones that New did not make.

func TestNobody(t *testing.T) {
	var p *past.Past
	for _, q := range append(never(1, 7), kinds(1, 7)...) {
		wantAsk(t, p, q, api.ErrArg)
		wantAnswer(t, p, q.Client, q.Seq, api.Reply{}, 1, api.ErrArg)
	}
	wantPast(t, p, nil)
}

func TestAnEmptyStructIsAsNew(t *testing.T) {
	p, q := new(past.Past), create(1, 7, 3, "a")
	wantPast(t, p, nil)
	wantAnswer(t, p, 1, 7, api.Reply{}, 1, api.ErrState)
	wantAsk(t, p, q, api.OK)
	wantAnswer(t, p, 1, 7, api.Reply{}, 1, api.OK)
	wantPast(t, p, []api.Act{asks(q), told(q, api.Reply{}, 1)})
}

// No call panics, whatever it is given, and each says the same again.
func TestAnythingMayBeHandedIn(t *testing.T) {
	numbers := []int{math.MinInt, -1, 0, 1, 2, 3, 4, 6, 7, 31, 32, 1 << 30, 1<<30 + 1, 1 << 32, math.MaxInt}
	told := func() string {
		var w strings.Builder
		for _, a := range numbers {
			p := past.New()
			for _, b := range numbers {
				for _, c := range numbers {
					q := api.Req{Client: a, Seq: b, Kind: c, Id: 3, Match: b}
					r := api.Reply{Code: c, Version: a, Versions: []int{b}}
					fmt.Fprint(&w, p.Ask(q), p.Answer(a, b, r, c), len(p.Acts()), p.Pending())
					fmt.Fprint(&w, past.May([]api.Act{{Client: a, Seq: b, Req: q}}), past.May([]api.Act{{Client: b, Seq: c, Answer: true, Req: q, Reply: r, At: a}}))
				}
			}
			fmt.Fprint(&w, p.Acts())
		}
		return w.String()
	}
	if told() != told() {
		t.Error("the same calls answer otherwise")
	}
}
