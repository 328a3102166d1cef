package line_test

import (
	"bytes"
	"fmt"
	"math"
	"slices"
	"strings"
	"testing"

	"casebook/api"
	"casebook/line"
	"casebook/store"
)

func create(client, seq, id int, data string) api.Req {
	return api.Req{Client: client, Seq: seq, Kind: api.OpCreate, Id: id, Data: data}
}

func update(client, seq, id, match int, data string) api.Req {
	return api.Req{Client: client, Seq: seq, Kind: api.OpUpdate, Id: id, Match: match, Data: data}
}

func remove(client, seq, id, match int) api.Req {
	return api.Req{Client: client, Seq: seq, Kind: api.OpDelete, Id: id, Match: match}
}

func read(client, seq, id int) api.Req {
	return api.Req{Client: client, Seq: seq, Kind: api.OpRead, Id: id}
}

func version(client, seq, id, match int) api.Req {
	return api.Req{Client: client, Seq: seq, Kind: api.OpVersion, Id: id, Match: match}
}

func history(client, seq, id int) api.Req {
	return api.Req{Client: client, Seq: seq, Kind: api.OpHistory, Id: id}
}

func noClients() []int {
	return []int{math.MinInt, math.MinInt + 1, -1 << 32, -api.MaxClients, -1, api.MaxClients, api.MaxClients + 1, 1 << 32, 1<<32 + 1, math.MaxInt}
}

func noIds() []int {
	return []int{math.MinInt, math.MinInt + 1, -1 << 32, -api.MaxId, -1, api.MaxId + 1, api.MaxId + 2, 64, 1 << 32, 1<<32 + 3, math.MaxInt}
}

// never has requests that may not stand in a log: but for the one thing that is wrong they are of the client 1, of this Seq, of the id 3.
func never(seq int) []api.Req {
	l := []api.Req{
		{},
		{Client: 1, Seq: seq, Kind: api.OpCreate, Id: 3, Match: 1},
		{Client: 1, Seq: seq, Kind: api.OpDelete, Id: 3, Data: "d"},
		create(1, seq, 3, strings.Repeat("d", api.MaxData+1)),
		update(1, seq, 3, 1, strings.Repeat("d", api.MaxData+1)),
		read(1, seq, 3), version(1, seq, 3, 1), history(1, seq, 3), version(1, seq, 3, 0),
	}
	for _, kind := range []int{math.MinInt, -1, 0, 7, 1<<32 + 1, math.MaxInt} {
		l = append(l, api.Req{Client: 1, Seq: seq, Kind: kind, Id: 3})
	}
	for kind := api.OpCreate; kind <= api.OpHistory; kind++ {
		for _, client := range noClients() {
			l = append(l, api.Req{Client: client, Seq: seq, Kind: kind, Id: 3})
		}
		for _, none := range []int{math.MinInt, -1, 0, api.MaxSeq + 1, 1<<32 + seq, math.MaxInt} {
			l = append(l, api.Req{Client: 1, Seq: none, Kind: kind, Id: 3})
		}
		for _, id := range noIds() {
			l = append(l, api.Req{Client: 1, Seq: seq, Kind: kind, Id: id})
		}
		for _, match := range []int{math.MinInt, -1, api.MaxQuota + 1, 1<<32 + 1, math.MaxInt} {
			l = append(l, api.Req{Client: 1, Seq: seq, Kind: kind, Id: 3, Match: match})
		}
	}
	return l
}

// opened answers a new line.
func opened(t *testing.T, quota int) *line.Line {
	t.Helper()
	l, e := line.New(quota)
	if l == nil || e != api.OK {
		t.Fatalf("New(%d): %v, %d", quota, l, e)
	}
	return l
}

// filled answers a line with a quota of 4 in which these stand, the first n of them committed, and its model.
func filled(t *testing.T, n int, all ...api.Req) pair {
	t.Helper()
	x := paired(t, 4)
	for _, q := range all {
		x.put(t, q)
	}
	x.commit(t, n)
	if x.l.Len() != len(all) || x.l.Committed() != n {
		t.Fatalf("%d requests, %d committed; not %d, %d", x.l.Len(), x.l.Committed(), len(all), n)
	}
	return x
}

// row answers nine requests of three clients for three ids: each kind, some of them in vain.
func row() []api.Req {
	return []api.Req{
		create(1, 2, 3, "a"), update(1, 5, 3, 1, "b"), create(0, 300, 31, "c"), remove(1, 6, 31, 0), update(0, 301, 3, 1, "no"),
		create(3, 1, 0, ""), create(3, 2, 0, "no"), remove(3, 4, 0, 1), create(1, api.MaxSeq, 0, "y"),
	}
}

// 18.1: New

func TestNewIsEmpty(t *testing.T) {
	for quota := 1; quota <= api.MaxQuota; quota++ {
		x := paired(t, quota)
		wantSame(t, x.l, x.p)
	}
}

func TestNewOfWhatMayNotBe(t *testing.T) {
	for _, quota := range []int{math.MinInt, -1 << 32, -api.MaxQuota, -1, 0, api.MaxQuota + 1, api.MaxQuota + 2, 1 << 32, 1<<32 + 1, math.MaxInt} {
		if l, e := line.New(quota); l != nil || e != api.ErrArg {
			t.Errorf("New(%d): %v, %d", quota, l, e)
		}
	}
}

// So many versions a resource may have.
func TestQuotaIsKept(t *testing.T) {
	for _, quota := range []int{1, 2, 3, api.MaxQuota} {
		x := paired(t, quota)
		x.put(t, create(0, 1, 3, "a"))
		for k := 1; k <= quota; k++ {
			x.put(t, update(0, 1+k, 3, 0, "a"))
		}
		x.commit(t, quota+1)
		wantSame(t, x.l, x.p)
		wantReply(t, x.l, quota, api.Reply{Code: api.RDone, Version: quota})
		wantReply(t, x.l, quota+1, api.Reply{Code: api.RQuota, Version: quota})
		if got := x.l.Store().Versions(3); len(got) != quota {
			t.Errorf("a quota of %d: %v", quota, got)
		}
	}
}

func TestNewOnesAreApart(t *testing.T) {
	x, y := filled(t, 3, row()...), paired(t, 1)
	wantSame(t, y.l, y.p)
	y.put(t, create(1, 1, 30, "z"))
	y.commit(t, 1)
	wantSame(t, x.l, x.p)
	wantSame(t, y.l, y.p)
}

// 18.1: Put

func TestPutStandsBehindAll(t *testing.T) {
	l := opened(t, 4)
	for k, q := range row() {
		if place, e := l.Put(q); place != k+1 || e != api.OK {
			t.Errorf("Put of %v: %d, %d", q, place, e)
		}
		if got := l.Since(0, math.MaxInt); l.Len() != k+1 || !slices.Equal(got, row()[:k+1]) {
			t.Errorf("%d: %v", l.Len(), got)
		}
		if l.Committed() != 0 {
			t.Errorf("%d are committed", l.Committed())
		}
	}
}

// Put twice of one Seq: ErrOrder.
func TestExampleOfTheDocument(t *testing.T) {
	l := opened(t, 10)
	q := create(1, 1, 3, "a")
	if place, e := l.Put(q); place != 1 || e != api.OK {
		t.Errorf("%d, %d", place, e)
	}
	if place, e := l.Put(q); place != 0 || e != api.ErrOrder {
		t.Errorf("again: %d, %d", place, e)
	}
	if l.Len() != 1 {
		t.Errorf("%d places", l.Len())
	}
}

// wantPutRefused fails unless Put and Take of a request tell just this error, and nothing changes.
func wantPutRefused(t *testing.T, x pair, q api.Req, want int) {
	t.Helper()
	if place, e := x.l.Put(q); place != 0 || e != want {
		t.Errorf("Put of %v: %d, %d; not %d", q, place, e, want)
	}
	if e := x.l.Take(x.l.Len()+1, q); e != want {
		t.Errorf("Take of %v: %d; not %d", q, e, want)
	}
	wantSame(t, x.l, x.p)
}

func TestPutOfWhatMayNotStand(t *testing.T) {
	x, y := paired(t, 4), filled(t, 4, row()[:8]...)
	for _, q := range never(7) { // newer than all of the client 1
		wantPutRefused(t, x, q, api.ErrArg)
		wantPutRefused(t, y, q, api.ErrArg)
	}
	for _, q := range never(6) { // not newer: that it may not stand is told first
		wantPutRefused(t, y, q, api.ErrArg)
	}
	x.put(t, create(1, 7, 3, "a"))
	y.put(t, create(1, 7, 3, "a"))
	wantSame(t, x.l, x.p)
	wantSame(t, y.l, y.p)
}

// Each Seq that its client's last one here is not below, whatever is asked with it.
func TestPutOfOldOnes(t *testing.T) {
	x := filled(t, 2, row()[:8]...)
	for client, last := range []int{301, 6, 0, 4} {
		for seq := 1; seq <= last; seq++ {
			wantPutRefused(t, x, create(client, seq, 7, "old"), api.ErrOrder)
			if seq > last-2 {
				wantPutRefused(t, x, update(client, seq, 3, 0, "old"), api.ErrOrder)
				wantPutRefused(t, x, remove(client, seq, 0, 0), api.ErrOrder)
			}
		}
	}
	for _, q := range row()[:8] { // the same ones again
		wantPutRefused(t, x, q, api.ErrOrder)
	}
	x.put(t, create(2, 1, 7, "new"))
	x.put(t, create(0, 302, 7, "new"))
	x.put(t, create(1, 7, 7, "new"))
	x.put(t, create(3, 5, 7, "new"))
	wantSame(t, x.l, x.p)
}

// It is above the last one, not just the next one.
func TestPutWithGaps(t *testing.T) {
	for _, seqs := range [][]int{{1, 2, 3}, {1, 3, 100}, {7, 8}, {1, api.MaxSeq}, {api.MaxSeq - 1, api.MaxSeq}, {1 << 29, 1<<29 + 1}} {
		for client := range api.MaxClients {
			x := paired(t, 4)
			for _, seq := range seqs {
				x.put(t, create(client, seq, 5, "a"))
				wantSame(t, x.l, x.p)
				wantPutRefused(t, x, create(client, seq, 5, "a"), api.ErrOrder)
			}
		}
	}
}

// Requests at the edges of what may be.
func TestPutAtTheEdges(t *testing.T) {
	most := strings.Repeat("d", api.MaxData)
	x := paired(t, 4)
	for _, q := range []api.Req{
		create(0, 1, 0, ""), create(0, 2, api.MaxId, most), update(0, 3, 0, 0, ""), update(0, 4, 0, api.MaxQuota, most), remove(0, 5, 0, 0),
		remove(0, 6, api.MaxId, api.MaxQuota), create(3, api.MaxSeq, api.MaxId, "\x00\xff\x80"),
	} {
		x.put(t, q)
		wantSame(t, x.l, x.p)
	}
	x.commit(t, 7)
	if x.l.Len() != 7 {
		t.Errorf("%d of 7", x.l.Len())
	}
	wantSame(t, x.l, x.p)
}

// 18.1: Take

func TestTakeStandsBehindAll(t *testing.T) {
	x := paired(t, 4)
	for k, q := range row() {
		if e := x.l.Take(k+1, q); e != api.OK {
			t.Errorf("Take of %d, %v: %d", k+1, q, e)
		}
		x.p.put(q)
		wantSame(t, x.l, x.p)
	}
}

// At another place nothing stands, whatever it is: that is told first.
func TestTakeAtOtherPlaces(t *testing.T) {
	for size := range 9 {
		x := filled(t, size/2, row()[:size]...)
		requests := append(never(7), row()[8], row()[0])
		for _, at := range []int{math.MinInt, -1 << 32, -1, 0, size/2 + 1, size - 1, size, size + 2, size + 3, 1<<32 + size + 1, math.MaxInt} {
			if at == size+1 {
				continue
			}
			for _, q := range requests {
				if e := x.l.Take(at, q); e != api.ErrOrder {
					t.Errorf("%d: Take of %d, %v: %d", size, at, q, e)
				}
			}
		}
		wantSame(t, x.l, x.p)
		x.take(t, size+1, row()[8])
		wantSame(t, x.l, x.p)
	}
}

// Where one Put and another one Takes, both stand.
func TestPutAndTakeInTurn(t *testing.T) {
	x := paired(t, 4)
	for k, q := range row() {
		if k%2 == 0 {
			x.put(t, q)
		} else {
			x.take(t, k+1, q)
		}
		wantSame(t, x.l, x.p)
	}
}

// 18.1: Commit

func TestCommitOfEachNumber(t *testing.T) {
	for size := range 10 {
		for first := 0; first <= size; first++ {
			for _, n := range some(size) {
				x := filled(t, first, row()[:size]...)
				e := x.l.Commit(n)
				if n >= first && n <= size {
					x.p.committed = n
				}
				if (e == api.OK) != (n >= first && n <= size) || e != api.OK && e != api.ErrRange {
					t.Errorf("%d of %d committed: Commit of %d: %d", first, size, n, e)
				}
				wantSame(t, x.l, x.p)
			}
		}
	}
}

// One by one, some at once, all at once: what is committed is the same.
func TestCommitInSteps(t *testing.T) {
	for _, steps := range [][]int{{9}, {1, 2, 3, 4, 5, 6, 7, 8, 9}, {0, 0, 4, 4, 9, 9}, {2, 7, 8, 9}} {
		x := filled(t, 0, row()...)
		for _, n := range steps {
			x.commit(t, n)
			wantSame(t, x.l, x.p)
		}
		x.put(t, create(2, 1, 9, "behind"))
		wantSame(t, x.l, x.p)
		x.commit(t, 10)
		wantSame(t, x.l, x.p)
	}
}

// 18.1: Since, Find, Seq

func TestSince(t *testing.T) {
	for size := range 10 {
		l := filled(t, size/3, row()[:size]...).l
		for n := -2; n <= size+2; n++ {
			for most := -2; most <= size+2; most++ {
				var want []api.Req
				if n >= 0 && n < size && most > 0 {
					want = row()[n:min(size, n+most)]
				}
				if got := l.Since(n, most); !slices.Equal(got, want) {
					t.Errorf("%d: Since(%d, %d): %v; not %v", size, n, most, got, want)
				}
			}
		}
	}
}

// What is answered is the caller's own.
func TestSinceIsNewEachTime(t *testing.T) {
	x := filled(t, 4, row()...)
	one, two := x.l.Since(2, 4), x.l.Since(2, 4)
	for k := range one {
		one[k] = create(2, 77, 7, "other")
	}
	_ = append(one[:1], row()...)
	if !slices.Equal(two, row()[2:6]) {
		t.Errorf("%v", two)
	}
	wantSame(t, x.l, x.p)
	x.put(t, create(2, 1, 9, "behind"))
	x.commit(t, 9)
	wantSame(t, x.l, x.p)
}

func TestFind(t *testing.T) {
	l := filled(t, 2, row()...).l
	places := map[[2]int]int{{1, 2}: 1, {1, 5}: 2, {0, 300}: 3, {1, 6}: 4, {0, 301}: 5, {3, 1}: 6, {3, 2}: 7, {3, 4}: 8, {1, api.MaxSeq}: 9}
	seqs := []int{math.MinInt, -1, 0, 1, 2, 3, 4, 5, 6, 7, 299, 300, 301, 302, api.MaxSeq - 1, api.MaxSeq, api.MaxSeq + 1, 1<<32 + 1, math.MaxInt}
	for _, client := range append(noClients(), 0, 1, 2, 3) {
		for _, seq := range seqs {
			want := places[[2]int{client, seq}]
			if got, ok := l.Find(client, seq); got != want || ok != (want > 0) {
				t.Errorf("Find(%d, %d): %d, %t; not %d", client, seq, got, ok, want)
			}
		}
	}
}

func TestSeq(t *testing.T) {
	x := filled(t, 2, row()[:8]...)
	for client, want := range []int{301, 6, 0, 4} {
		if got := x.l.Seq(client); got != want {
			t.Errorf("Seq(%d): %d; not %d", client, got, want)
		}
	}
	for _, client := range noClients() {
		if got := x.l.Seq(client); got != 0 {
			t.Errorf("Seq(%d): %d", client, got)
		}
	}
	x.put(t, row()[8])
	if got := x.l.Seq(1); got != api.MaxSeq {
		t.Errorf("%d", got)
	}
}

// 18.2: Reply

func wantReply(t *testing.T, l *line.Line, at int, want api.Reply) {
	t.Helper()
	if got, e := l.Reply(at); !sameReply(got, want) || e != api.OK {
		t.Errorf("Reply(%d): %v, %d; not %v", at, got, e, want)
	}
}

func wantNoReply(t *testing.T, l *line.Line, at, want int) {
	t.Helper()
	if got, e := l.Reply(at); !sameReply(got, api.Reply{}) || e != want {
		t.Errorf("Reply(%d): %v, %d; not %d", at, got, e, want)
	}
}

// What each request of the row is told.
func rowReplies() []api.Reply {
	return []api.Reply{
		{Code: api.RDone, Version: 1}, {Code: api.RDone, Version: 2}, {Code: api.RDone, Version: 1}, {Code: api.RDone, Version: 2}, {Code: api.RMatch, Version: 2},
		{Code: api.RDone, Version: 1}, {Code: api.RExists, Version: 1}, {Code: api.RDone, Version: 2}, {Code: api.RDone, Version: 3},
	}
}

func TestReplyOfEachPlace(t *testing.T) {
	l := opened(t, 4)
	for _, q := range row() {
		l.Put(q)
	}
	for n := range 10 {
		if e := l.Commit(n); e != api.OK {
			t.Fatalf("Commit(%d): %d", n, e)
		}
		for at := 1; at <= 9; at++ {
			if at <= n {
				wantReply(t, l, at, rowReplies()[at-1])
			} else {
				wantNoReply(t, l, at, api.ErrRange)
			}
		}
		for _, at := range []int{math.MinInt, -1 << 32, -n, -1, 0, n + 1, 10, 11, 1 << 32, 1<<32 + 1, math.MaxInt} {
			wantNoReply(t, l, at, api.ErrRange)
		}
	}
}

// Each code that a request that writes can be told.
func TestReplyOfEachCode(t *testing.T) {
	x := filled(t, 9,
		update(0, 1, 3, 0, "none"), create(0, 2, 3, "a"), create(0, 3, 3, "there"), update(0, 4, 3, 2, "not 2"), remove(0, 5, 3, 1),
		remove(0, 6, 3, 0), create(0, 7, 3, "b"), update(0, 8, 3, 3, "c"), update(0, 9, 3, 4, "no more"))
	for k, want := range []api.Reply{
		{Code: api.RNone}, {Code: api.RDone, Version: 1}, {Code: api.RExists, Version: 1}, {Code: api.RMatch, Version: 1}, {Code: api.RDone, Version: 2},
		{Code: api.RGone, Version: 2}, {Code: api.RDone, Version: 3}, {Code: api.RDone, Version: 4}, {Code: api.RQuota, Version: 4},
	} {
		wantReply(t, x.l, k+1, want)
	}
}

// What stands behind a place changes nothing of what was told there.
func TestReplyStays(t *testing.T) {
	x := filled(t, 1, row()[:1]...)
	for k, q := range row()[1:] {
		x.put(t, q)
		x.commit(t, k+2)
		for at := 1; at <= k+2; at++ {
			wantReply(t, x.l, at, rowReplies()[at-1])
		}
	}
}

// 18.2: Store

// storeOf answers a store with a quota of 4 in which these were Put.
func storeOf(t *testing.T, all []api.Req) *store.Store {
	t.Helper()
	s, e := store.New(4)
	if e != api.OK {
		t.Fatalf("no store: %d", e)
	}
	for _, q := range all {
		if _, e := s.Put(q); e != api.OK {
			t.Fatalf("Put of %v: %d", q, e)
		}
	}
	return s
}

// wantStore fails unless a line's store is one in which just these were Put.
func wantStore(t *testing.T, l *line.Line, all []api.Req) {
	t.Helper()
	got, want := l.Store(), storeOf(t, all)
	if got == nil || !bytes.Equal(got.Bytes(), want.Bytes()) || got.Len() != len(all) {
		t.Errorf("behind %v: %x; not %x", all, got.Bytes(), want.Bytes())
	}
	for client := range api.MaxClients {
		reply, place := got.Last(client)
		if wanted, at := want.Last(client); !sameReply(reply, wanted) || place != at || got.Seq(client) != want.Seq(client) {
			t.Errorf("client %d: %v, %d; not %v, %d", client, reply, place, wanted, at)
		}
	}
}

func TestStoreHasTheCommittedOnes(t *testing.T) {
	for size := range 10 {
		for n := 0; n <= size; n++ {
			wantStore(t, filled(t, n, row()[:size]...).l, row()[:n])
		}
	}
}

// Whatever is Put into what was handed out, the log tells what it told, and the next one is as the first.
func TestStoreIsNotTheLogsOwn(t *testing.T) {
	x := filled(t, 5, row()...)
	one, two := x.l.Store(), x.l.Store()
	for _, q := range []api.Req{create(0, 1000, 7, "mine"), remove(1, api.MaxSeq, 3, 0), create(2, api.MaxSeq, 31, "mine"), update(3, api.MaxSeq, 0, 0, "mine")} {
		if _, e := one.Put(q); e != api.OK {
			t.Fatalf("Put of %v: %d", q, e)
		}
	}
	if !bytes.Equal(two.Bytes(), storeOf(t, row()[:5]).Bytes()) {
		t.Errorf("the other one: %x", two.Bytes())
	}
	wantSame(t, x.l, x.p)
	x.commit(t, 9)
	wantSame(t, x.l, x.p)
	if !bytes.Equal(two.Bytes(), storeOf(t, row()[:5]).Bytes()) {
		t.Errorf("behind Commit, the one that was handed out ahead of it: %x", two.Bytes())
	}
	for k := range 9 {
		wantReply(t, x.l, k+1, rowReplies()[k])
	}
}

// It may be put on: what is told there is what the log tells later.
func TestStoreGoesOn(t *testing.T) {
	for n := range 9 {
		x := filled(t, n, row()...)
		s := x.l.Store()
		for k, q := range row()[n:] {
			if got, e := s.Put(q); e != api.OK || !sameReply(got, rowReplies()[n+k]) {
				t.Errorf("%d committed: Put of %v: %v, %d", n, q, got, e)
			}
		}
		x.commit(t, 9)
		if !bytes.Equal(s.Bytes(), x.l.Store().Bytes()) {
			t.Errorf("%d committed: %x; not %x", n, s.Bytes(), x.l.Store().Bytes())
		}
	}
}

// 18.2: Last

func TestLastOfEachId(t *testing.T) {
	for n := range 10 {
		l := filled(t, n, row()...).l
		for id := range api.MaxId + 1 {
			want := map[int]int{3: 5, 31: 4, 0: 9}[id]
			if got := l.Last(id); got != want {
				t.Errorf("%d committed: Last(%d): %d; not %d", n, id, got, want)
			}
		}
		for _, id := range noIds() {
			if got := l.Last(id); got != 0 {
				t.Errorf("Last(%d): %d", id, got)
			}
		}
	}
}

func TestLastRises(t *testing.T) {
	l := opened(t, 4)
	want := map[int]int{}
	for k, q := range row() {
		l.Put(q)
		want[q.Id] = k + 1
		for id := range api.MaxId + 1 {
			if got := l.Last(id); got != want[id] {
				t.Errorf("behind %v: Last(%d): %d; not %d", q, id, got, want[id])
			}
		}
	}
}

// Of each id, by each kind.
func TestLastIsOfTheId(t *testing.T) {
	for id := range api.MaxId + 1 {
		for _, q := range []api.Req{create(1, 1, id, "a"), update(1, 1, id, 0, "a"), remove(1, 1, id, 0)} {
			l := filled(t, 0, q).l
			for other := range api.MaxId + 1 {
				if (l.Last(other) == 1) != (other == id) || (l.Last(other) == 0) != (other != id) {
					t.Errorf("behind %v: Last(%d): %d", q, other, l.Last(other))
				}
			}
		}
	}
}

func TestToldTwiceIsTheSame(t *testing.T) {
	x := filled(t, 4, row()...)
	for range 3 {
		wantSame(t, x.l, x.p)
	}
}

// A long log is told as fast as a short one: this would not end soon, if all were gone over each time.
func TestLongLog(t *testing.T) {
	l := opened(t, api.MaxQuota)
	const long = 200_000
	for k := range long {
		if place, e := l.Put(update(k%api.MaxClients, 1+k, k%32, 0, "u")); place != k+1 || e != api.OK {
			t.Fatalf("%d: %d, %d", k, place, e)
		}
		if e := l.Commit(k + 1); e != api.OK {
			t.Fatalf("Commit of %d: %d", k+1, e)
		}
	}
	for k := range long {
		if place, ok := l.Find(k%api.MaxClients, 1+k); place != k+1 || !ok {
			t.Fatalf("%d: %d, %t", k, place, ok)
		}
		if place, ok := l.Find((k+1)%api.MaxClients, 1+k); place != 0 || ok {
			t.Fatalf("%d, of another client: %d, %t", k, place, ok)
		}
		wantReply(t, l, k+1, api.Reply{Code: api.RNone})
		if got := l.Since(k, 2); len(got) != min(2, long-k) || got[0].Seq != 1+k {
			t.Fatalf("Since(%d, 2): %v", k, got)
		}
	}
	if l.Store().Len() != long {
		t.Errorf("%d in the store", l.Store().Len())
	}
}

// Of nil, and of ones that New did not make.

func TestNobody(t *testing.T) {
	var none *line.Line
	for _, l := range []*line.Line{none, new(line.Line)} {
		for _, q := range append(never(7), row()...) {
			if place, e := l.Put(q); place != 0 || e != api.ErrArg {
				t.Errorf("Put of %v: %d, %d", q, place, e)
			}
			for _, at := range []int{math.MinInt, -1, 0, 1, 2, math.MaxInt} {
				if e := l.Take(at, q); e != api.ErrArg {
					t.Errorf("Take of %d, %v: %d", at, q, e)
				}
			}
		}
		for _, n := range []int{math.MinInt, -1, 0, 1, 2, 31, 32, math.MaxInt} {
			if e := l.Commit(n); e != api.ErrArg {
				t.Errorf("Commit of %d: %d", n, e)
			}
			wantNoReply(t, l, n, api.ErrArg)
			if place, ok := l.Find(n, 1); place != 0 || ok || l.Seq(n) != 0 || l.Last(n) != 0 || len(l.Since(n, 1)) > 0 || len(l.Since(0, n)) > 0 {
				t.Errorf("of %d something is told", n)
			}
		}
		if l.Len() != 0 || l.Committed() != 0 || l.Store() != nil {
			t.Errorf("%d, %d, %v", l.Len(), l.Committed(), l.Store())
		}
	}
}

// No call panics, whatever it is given, and each says the same again.
func TestAnythingMayBeHandedIn(t *testing.T) {
	numbers := []int{math.MinInt, -1, 0, 1, 2, 3, 5, 31, 32, 100, 1 << 32, math.MaxInt}
	told := func() string {
		var w strings.Builder
		for _, a := range numbers {
			l, e := line.New(a)
			fmt.Fprintln(&w, "New", e)
			for _, b := range numbers {
				for _, c := range numbers {
					q := api.Req{Client: b, Seq: c, Kind: 1 + (a&3+b&3)%3, Id: c}
					place, e := l.Put(q)
					fmt.Fprintln(&w, place, e, l.Take(c, q), l.Take(place+1, q), l.Commit(b), l.Len(), l.Committed())
					place, ok := l.Find(b, c)
					reply, e := l.Reply(c)
					fmt.Fprintln(&w, place, ok, reply, e, l.Seq(b), l.Last(c), l.Since(b, c), l.Store().Bytes())
				}
			}
		}
		return w.String()
	}
	if told() != told() {
		t.Error("the same calls answer otherwise")
	}
}
