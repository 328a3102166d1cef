package dirty_test

import (
	"fmt"
	"math"
	"slices"
	"strings"
	"testing"

	"casebook/api"
	"casebook/dirty"
	"casebook/line"
	"casebook/store"
)

func create(client, seq, id int, data string) api.Req {
	return api.Req{Client: client, Seq: seq, Kind: api.OpCreate, Id: id, Data: data}
}

func update(client, seq, id, match int, data string) api.Req {
	return api.Req{Client: client, Seq: seq, Kind: api.OpUpdate, Id: id, Match: match, Data: data}
}

func remove(client, seq, id, match int) api.Req {
	return api.Req{Client: client, Seq: seq, Kind: api.OpDelete, Id: id, Match: match}
}

func read(client, seq, id int) api.Req {
	return api.Req{Client: client, Seq: seq, Kind: api.OpRead, Id: id}
}

func version(client, seq, id, match int) api.Req {
	return api.Req{Client: client, Seq: seq, Kind: api.OpVersion, Id: id, Match: match}
}

func history(client, seq, id int) api.Req {
	return api.Req{Client: client, Seq: seq, Kind: api.OpHistory, Id: id}
}

// reads answers requests of each kind that reads, for an id.
func reads(id int) []api.Req {
	return []api.Req{read(2, 1, id), history(0, 1, id), version(2, 9, id, 1), version(3, api.MaxSeq, id, 2), version(2, 1, id, api.MaxQuota)}
}

func noIds() []int {
	return []int{math.MinInt, math.MinInt + 1, -1 << 32, -api.MaxId, -2, -1, api.MaxId + 1, api.MaxId + 2, 64, 1 << 32, 1<<32 + 3, math.MaxInt - 1, math.MaxInt}
}

// notRead has requests that may not be read: such as may not be (but for the one thing that is wrong they read the id), and such as write.
func notRead(id int) []api.Req {
	l := []api.Req{
		{}, {Id: id},
		create(1, 7, id, "a"), create(1, 7, id, ""), update(1, 7, id, 0, "a"), update(1, 7, id, 1, ""), remove(1, 7, id, 0), remove(1, 7, id, 1),
		{Client: 1, Seq: 7, Kind: api.OpRead, Id: id, Match: 1},
		{Client: 1, Seq: 7, Kind: api.OpHistory, Id: id, Match: 1},
		{Client: 1, Seq: 7, Kind: api.OpRead, Id: id, Data: "d"},
		{Client: 1, Seq: 7, Kind: api.OpVersion, Id: id, Match: 1, Data: "d"},
		{Client: 1, Seq: 7, Kind: api.OpHistory, Id: id, Data: "d"},
		version(1, 7, id, 0), version(1, 7, id, -1), version(1, 7, id, api.MaxQuota+1), version(1, 7, id, math.MinInt), version(1, 7, id, 1<<32+1),
	}
	for _, kind := range []int{math.MinInt, -1, 0, 7, 1<<32 + api.OpRead, math.MaxInt} {
		l = append(l, api.Req{Client: 1, Seq: 7, Kind: kind, Id: id})
	}
	for _, client := range []int{math.MinInt, -1, api.MaxClients, 1 << 32, math.MaxInt} {
		l = append(l, read(client, 7, id), version(client, 7, id, 1), history(client, 7, id))
	}
	for _, seq := range []int{math.MinInt, -1, 0, api.MaxSeq + 1, 1<<32 + 7, math.MaxInt} {
		l = append(l, read(1, seq, id), version(1, seq, id, 1), history(1, seq, id))
	}
	for _, none := range noIds() {
		l = append(l, read(1, 7, none), version(1, 7, none, 1), history(1, 7, none))
	}
	return l
}

// row answers nine requests of three clients for three ids: each kind, some of them in vain.
func row() []api.Req {
	return []api.Req{
		create(1, 2, 3, "a"), update(1, 5, 3, 1, "b"), create(0, 300, 31, "c"), remove(1, 6, 31, 0), update(0, 301, 3, 1, "no"),
		create(3, 1, 0, ""), create(3, 2, 0, "no"), remove(3, 4, 0, 1), create(1, api.MaxSeq, 0, "y"),
	}
}

// filled answers a line with a quota of 4 in which these stand, the first n of them committed.
func filled(t *testing.T, n int, all ...api.Req) *line.Line {
	t.Helper()
	l, e := line.New(4)
	if e != api.OK {
		t.Fatalf("no line: %d", e)
	}
	for k, q := range all {
		if e := l.Take(k+1, q); e != api.OK {
			t.Fatalf("Take of %v: %d", q, e)
		}
	}
	if e := l.Commit(n); e != api.OK {
		t.Fatalf("Commit of %d: %d", n, e)
	}
	return l
}

func sameReply(a, b api.Reply) bool {
	return a.Code == b.Code && a.Version == b.Version && a.Data == b.Data && slices.Equal(a.Versions, b.Versions)
}

// wantRead fails unless a request is told this, at this place.
func wantRead(t *testing.T, l *line.Line, q api.Req, want api.Reply, at int) {
	t.Helper()
	if got, place, e := dirty.Read(l, q); !sameReply(got, want) || place != at || e != api.OK {
		t.Errorf("Read of %v: %v, %d, %d; not %v, %d", q, got, place, e, want, at)
	}
}

// wantError fails unless a request is told just this error.
func wantError(t *testing.T, l *line.Line, q api.Req, want int) {
	t.Helper()
	if got, place, e := dirty.Read(l, q); !sameReply(got, api.Reply{}) || place != 0 || e != want {
		t.Errorf("Read of %v: %v, %d, %d; not %d", q, got, place, e, want)
	}
}

// wantDirty fails unless just these ids are not clean: Clean tells it of each, and Dirty of all.
func wantDirty(t *testing.T, l *line.Line, want ...int) {
	t.Helper()
	if got := dirty.Dirty(l); !slices.Equal(got, want) {
		t.Errorf("Dirty: %v; not %v", got, want)
	}
	for id := range api.MaxId + 1 {
		if dirty.Clean(l, id) == slices.Contains(want, id) {
			t.Errorf("Clean(%d): %t", id, slices.Contains(want, id))
		}
	}
	for _, id := range noIds() {
		if dirty.Clean(l, id) {
			t.Errorf("Clean(%d), of none", id)
		}
	}
}

// seen answers what a line tells of itself.
func seen(l *line.Line) string {
	var w strings.Builder
	fmt.Fprintln(&w, l.Len(), l.Committed(), l.Since(0, math.MaxInt), l.Store().Bytes())
	for at := range l.Committed() {
		reply, e := l.Reply(at + 1)
		fmt.Fprintln(&w, reply, e)
	}
	return w.String()
}

// 19.1: Clean, Dirty

// Behind Put of id 3: Dirty: [3].
func TestExampleOfTheDocument(t *testing.T) {
	l := filled(t, 0)
	if place, e := l.Put(create(1, 1, 3, "a")); place != 1 || e != api.OK {
		t.Fatalf("%d, %d", place, e)
	}
	if got := dirty.Dirty(l); !slices.Equal(got, []int{3}) {
		t.Errorf("%v", got)
	}
	wantDirty(t, l, 3)
}

func TestEmptyIsClean(t *testing.T) {
	wantDirty(t, filled(t, 0))
}

// Whatever stands, and however much of it is committed.
func TestDirtyIsWhatStandsBehind(t *testing.T) {
	for size := range 10 {
		for n := 0; n <= size; n++ {
			var want []int
			for _, q := range row()[n:size] {
				want = append(want, q.Id)
			}
			slices.Sort(want)
			wantDirty(t, filled(t, n, row()[:size]...), slices.Compact(want)...)
		}
	}
}

// Each id, by each kind that writes, of each client, also what is in vain.
func TestDirtyByEachKind(t *testing.T) {
	for id := range api.MaxId + 1 {
		for client := range api.MaxClients {
			for _, q := range []api.Req{create(client, 1, id, "a"), update(client, 1, id, 0, "a"), update(client, 1, id, 7, ""), remove(client, 1, id, 0)} {
				l := filled(t, 0, q)
				wantDirty(t, l, id)
				l.Commit(1)
				wantDirty(t, l)
			}
		}
	}
}

// One that was committed is dirty again by another one, until that is.
func TestCleanAgain(t *testing.T) {
	l := filled(t, 0)
	for k := range 20 {
		l.Put(update(k%4, 1+k, 5, 0, "a"))
		wantDirty(t, l, 5)
		l.Put(update(k%4, 2+k, 6, 0, "a"))
		wantDirty(t, l, 5, 6)
		l.Commit(2*k + 1)
		wantDirty(t, l, 6)
		l.Commit(2*k + 2)
		wantDirty(t, l)
	}
}

// The ids rise, in whatever order they were written, and however often.
func TestDirtyRises(t *testing.T) {
	l := filled(t, 0)
	var want []int
	for k := range api.MaxId + 1 {
		id := (31*k + 7) % 32 // falling, from 7 on
		l.Put(create(0, 2*k+1, id, "a"))
		l.Put(update(0, 2*k+2, id, 0, "a"))
		want = append(want, id)
		slices.Sort(want)
		wantDirty(t, l, want...)
	}
	for k := range api.MaxId + 1 {
		l.Commit(2*k + 1) // the second one is open
		wantDirty(t, l, want...)
		l.Commit(2*k + 2)
		id := (31*k + 7) % 32
		want = slices.DeleteFunc(want, func(x int) bool { return x == id })
		wantDirty(t, l, want...)
	}
}

// What was refused leaves all clean.
func TestRefusedIsNotDirty(t *testing.T) {
	l := filled(t, 1, create(1, 5, 3, "a"))
	for _, q := range []api.Req{create(1, 5, 4, "a"), create(1, 4, 4, "a"), read(1, 6, 4), create(1, 6, 32, "a"), create(4, 1, 4, "a")} {
		l.Put(q)
		l.Take(2, q)
		l.Take(3, create(0, 1, 7, "a"))
		wantDirty(t, l)
	}
}

// What is answered is the caller's own.
func TestDirtyIsNewEachTime(t *testing.T) {
	l := filled(t, 0, row()...)
	one, two := dirty.Dirty(l), dirty.Dirty(l)
	for k := range one {
		one[k] = 77
	}
	_ = append(one[:1], 78, 79, 80)
	if !slices.Equal(two, []int{0, 3, 31}) {
		t.Errorf("%v", two)
	}
	wantDirty(t, l, 0, 3, 31)
}

// 19.1: Read

func TestReadOfCleanOnes(t *testing.T) {
	l := filled(t, 5, row()[:8]...) // 0 is dirty
	gone := api.Reply{Code: api.RGone, Version: 2}
	for _, x := range []struct {
		q    api.Req
		want api.Reply
	}{
		{read(2, 1, 3), api.Reply{Code: api.RDone, Version: 2, Data: "b"}},
		{version(2, 1, 3, 1), api.Reply{Code: api.RDone, Version: 1, Data: "a"}},
		{version(2, 1, 3, 2), api.Reply{Code: api.RDone, Version: 2, Data: "b"}},
		{version(2, 1, 3, 3), api.Reply{Code: api.RNone}},
		{read(2, 1, 31), gone},
		{version(2, 1, 31, 1), api.Reply{Code: api.RDone, Version: 1, Data: "c"}},
		{read(2, 1, 4), api.Reply{Code: api.RNone}},
		{version(2, 1, 4, 1), api.Reply{Code: api.RNone}},
		{history(2, 1, 4), api.Reply{Code: api.RNone}},
	} {
		wantRead(t, l, x.q, x.want, 5)
	}
	if got, at, e := dirty.Read(l, history(2, 1, 3)); got.Code != api.RDone || len(got.Versions) != 2 || at != 5 || e != api.OK {
		t.Errorf("%v, %d, %d", got, at, e)
	}
}

// told answers what a store tells in which the first n of these were Put.
func told(t *testing.T, n int, all []api.Req, q api.Req) api.Reply {
	t.Helper()
	s, e := store.New(4)
	for _, put := range all[:n] {
		if _, wrong := s.Put(put); wrong != api.OK {
			e = wrong
		}
	}
	reply, wrong := s.Ask(q)
	if e != api.OK || wrong != api.OK {
		t.Fatalf("the store of %d: %d, %d", n, e, wrong)
	}
	return reply
}

// Each id, however much stands, and however much of it is committed.
func TestReadTellsWhatIsCommitted(t *testing.T) {
	for size := range 10 {
		for n := 0; n <= size; n++ {
			l := filled(t, n, row()[:size]...)
			for id := range api.MaxId + 1 {
				open := slices.ContainsFunc(row()[n:size], func(q api.Req) bool { return q.Id == id })
				for _, q := range reads(id) {
					if open {
						wantError(t, l, q, api.ErrState)
					} else {
						wantRead(t, l, q, told(t, n, row(), q), n)
					}
				}
			}
		}
	}
}

func TestReadOfWhatMayNotBeRead(t *testing.T) {
	for _, l := range []*line.Line{filled(t, 0), filled(t, 9, row()...), filled(t, 4, row()...), filled(t, 0, row()...)} {
		for _, id := range []int{0, 3, 31, 7} { // also where it is dirty: that it may not be is told first
			for _, q := range notRead(id) {
				wantError(t, l, q, api.ErrArg)
			}
		}
	}
}

// Who reads is asked for no newer Seq: reads have no place.
func TestReadByAnySeq(t *testing.T) {
	l := filled(t, 2, row()[:2]...)
	for client := range api.MaxClients {
		for _, seq := range []int{1, 2, 5, 6, api.MaxSeq - 1, api.MaxSeq} {
			for range 2 {
				wantRead(t, l, read(client, seq, 3), api.Reply{Code: api.RDone, Version: 2, Data: "b"}, 2)
			}
		}
	}
}

// The quota of the line is that of its store.
func TestReadWithinTheQuota(t *testing.T) {
	for _, quota := range []int{1, 2, 3, api.MaxQuota} {
		l, _ := line.New(quota)
		l.Put(create(0, 1, 3, "a"))
		for k := 2; k <= quota+1; k++ {
			l.Put(update(0, k, 3, 0, "b"))
		}
		l.Commit(quota + 1)
		reply, at, e := dirty.Read(l, read(1, 1, 3))
		if reply.Code != api.RDone || reply.Version != quota || at != quota+1 || e != api.OK {
			t.Errorf("a quota of %d: %v, %d, %d", quota, reply, at, e)
		}
	}
}

// What is answered is the caller's own.
func TestReadIsNewEachTime(t *testing.T) {
	l := filled(t, 2, row()[:2]...)
	q := history(0, 1, 3)
	one, _, _ := dirty.Read(l, q)
	two, _, _ := dirty.Read(l, q)
	want := slices.Clone(two.Versions)
	for k := range one.Versions {
		one.Versions[k] = 77
	}
	if len(want) != 2 || !slices.Equal(two.Versions, want) {
		t.Errorf("%v; not %v", two.Versions, want)
	}
	wantRead(t, l, q, told(t, 2, row(), q), 2)
}

// All calls leave the line as it is, and tell the same again.
func TestNothingChanges(t *testing.T) {
	for n := range 10 {
		l := filled(t, n, row()...)
		before := seen(l)
		ids := dirty.Dirty(l)
		for range 3 {
			for id := range api.MaxId + 1 {
				for _, q := range append(reads(id), notRead(id)...) {
					dirty.Read(l, q)
				}
			}
			wantDirty(t, l, ids...)
		}
		if seen(l) != before {
			t.Errorf("%q; not %q", seen(l), before)
		}
		if e := l.Commit(9); e != api.OK {
			t.Errorf("Commit: %d", e)
		}
		wantDirty(t, l)
	}
}

// Of nil nothing is clean, so no id is.
func TestNobody(t *testing.T) {
	for id := range api.MaxId + 1 {
		if dirty.Clean(nil, id) {
			t.Errorf("Clean(%d)", id)
		}
		for _, q := range append(reads(id), notRead(id)...) {
			wantError(t, nil, q, api.ErrArg)
		}
	}
	for _, id := range noIds() {
		if dirty.Clean(nil, id) {
			t.Errorf("Clean(%d)", id)
		}
	}
	if got := dirty.Dirty(nil); len(got) != api.MaxId+1 || got[0] != 0 || got[api.MaxId] != api.MaxId || !slices.IsSorted(got) {
		t.Errorf("Dirty: %v", got)
	}
}

// One that New did not make has nothing to read.
func TestReadOfAnEmptyStruct(t *testing.T) {
	for id := range api.MaxId + 1 {
		for _, q := range append(reads(id), notRead(id)...) {
			wantError(t, new(line.Line), q, api.ErrArg)
		}
	}
}

// No call panics, whatever it is given, and each says the same again.
func TestAnythingMayBeHandedIn(t *testing.T) {
	numbers := []int{math.MinInt, -1, 0, 1, 2, 3, 4, 6, 7, 31, 32, 100, 1 << 32, math.MaxInt}
	lines := []*line.Line{nil, new(line.Line), filled(t, 0), filled(t, 4, row()...), filled(t, 9, row()...)}
	told := func() string {
		var w strings.Builder
		write := func(r api.Reply, at, e int) { fmt.Fprint(&w, r, at, e) }
		for _, l := range lines {
			fmt.Fprint(&w, dirty.Dirty(l))
			for _, a := range numbers {
				fmt.Fprint(&w, dirty.Clean(l, a))
				for _, b := range numbers {
					for _, c := range numbers {
						fmt.Fprint(&w, dirty.Clean(l, c))
						write(dirty.Read(l, api.Req{Client: a, Seq: b, Kind: c, Id: 3, Match: b}))
						write(dirty.Read(l, api.Req{Client: 1, Seq: 1, Kind: b, Id: a, Match: c}))
					}
				}
			}
		}
		return w.String()
	}
	if told() != told() {
		t.Error("the same calls answer otherwise")
	}
}
