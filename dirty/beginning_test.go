package dirty_test

import (
	"math"
	"slices"
	"strings"
	"testing"

	"casebook/api"
	"casebook/dirty"
	"casebook/line"
)

// plain is one told by the chapter's words: a list of requests, of which all is found by going over it.
type plain struct {
	committed int
	all       []api.Req
}

// clean tells if no request for an id stands behind the committed ones.
func (p plain) clean(id int) bool {
	return id >= 0 && id <= 31 && !slices.ContainsFunc(p.all[p.committed:], func(q api.Req) bool { return q.Id == id })
}

func (p plain) dirty() []int {
	var l []int
	for id := range 32 {
		if !p.clean(id) {
			l = append(l, id)
		}
	}
	return l
}

// read answers as Read does, of a request that reads.
func (p plain) read(t *testing.T, q api.Req) (api.Reply, int, int) {
	t.Helper()
	if !p.clean(q.Id) {
		return api.Reply{}, 0, api.ErrState
	}
	return told(t, p.committed, p.all, q), p.committed, api.OK
}

// wantSame fails unless both tell the same. It tells how many ids are dirty.
func wantSame(t *testing.T, l *line.Line, p plain) int {
	t.Helper()
	want := p.dirty()
	if got := dirty.Dirty(l); !slices.Equal(got, want) {
		t.Fatalf("%v: Dirty: %v; not %v", p, got, want)
	}
	for id := -2; id <= 34; id++ {
		if dirty.Clean(l, id) != p.clean(id) {
			t.Fatalf("%v: Clean(%d): %t", p, id, !p.clean(id))
		}
	}
	for _, id := range []int{0, 1, 3, 30, 31} {
		for _, q := range reads(id) {
			got, at, e := dirty.Read(l, q)
			reply, place, wrong := p.read(t, q)
			if !sameReply(got, reply) || at != place || e != wrong {
				t.Fatalf("%v: Read of %v: %v, %d, %d; not %v, %d, %d", p, q, got, at, e, reply, place, wrong)
			}
		}
	}
	return len(want)
}

// chosen are requests that stand in any order, with Seqs that rise.
func chosen() []api.Req {
	return []api.Req{
		create(0, 0, 3, "a"), update(1, 0, 3, 0, "b"), update(2, 0, 3, 1, "c"), remove(3, 0, 3, 0), create(1, 0, 31, "d"), remove(0, 0, 0, 0),
	}
}

// logs answers each row of so many of the chosen ones.
func logs(size int) [][]api.Req {
	all := [][]api.Req{nil}
	for at := range size {
		var longer [][]api.Req
		for _, l := range all {
			for _, q := range chosen() {
				q.Seq = at + 1
				longer = append(longer, append(slices.Clone(l), q))
			}
		}
		all = longer
	}
	return all
}

// Each short log, with as many committed as may be.
func TestEachShortLog(t *testing.T) {
	for size := range 5 {
		for _, all := range logs(size) {
			for n := 0; n <= size; n++ {
				wantSame(t, filled(t, n, all...), plain{n, all})
			}
		}
	}
}

// numbers answers a call that answers numbers from 0 to below n, the same ones in each run.
func numbers() func(n int) int {
	state := uint64(1)
	return func(n int) int {
		state = state*6364136223846793005 + 1442695040888963407
		return int((state >> 33) % uint64(n))
	}
}

// random answers a request that writes.
func random(next func(n int) int, seq int) api.Req {
	id := []int{0, 1, 3, 30, 31}[next(5)]
	switch next(4) {
	case 0:
		return create(next(api.MaxClients), seq, id, strings.Repeat("c", next(3)))
	case 1:
		return remove(next(api.MaxClients), seq, id, next(3))
	}
	return update(next(api.MaxClients), seq, id, next(4), strings.Repeat("u", next(api.MaxData+1)))
}

// Behind each call of many long scripts.
func TestLongScripts(t *testing.T) {
	next := numbers()
	dirty, clean := 0, 0
	for range 40 {
		l, p := filled(t, 0), plain{}
		for range 60 {
			if next(4) > 0 {
				q := random(next, len(p.all)+1)
				l.Put(q)
				p.all = append(p.all, q)
			} else {
				p.committed += next(len(p.all) - p.committed + 1)
				l.Commit(p.committed)
			}
			many := wantSame(t, l, p)
			dirty += many
			clean += 5 - many
		}
	}
	if dirty < 1000 || clean < 1000 {
		t.Errorf("only %d times dirty, %d times clean", dirty, clean)
	}
}

// 19.2: what is read of a clean resource is what any log with this one's beginning tells that has no more of it

// wantToldBy fails unless another log, which has the committed ones of this one at its beginning and no more of an id, tells of that id what is read here. It tells if that was asked.
func wantToldBy(t *testing.T, l *line.Line, id int, other []api.Req) bool {
	t.Helper()
	more := func(q api.Req) bool { return q.Id == id }
	if !dirty.Clean(l, id) || slices.ContainsFunc(other[l.Committed():], more) {
		return false
	}
	for _, q := range reads(id) {
		got, at, e := dirty.Read(l, q)
		for n := at; n <= len(other); n++ {
			if want := told(t, n, other, q); !sameReply(got, want) || e != api.OK {
				t.Fatalf("%d of %v committed: Read of %v: %v, %d; %d of %v tell %v", at, l.Since(0, math.MaxInt), q, got, e, n, other, want)
			}
		}
	}
	return true
}

// Each two short logs, however long the beginning is that they share.
func TestWhatIsReadIsWhatOthersTell(t *testing.T) {
	asked := 0
	for _, all := range logs(3) {
		for _, other := range logs(3) {
			for n := 0; n <= 3 && slices.Equal(all[:n], other[:n]); n++ {
				l := filled(t, n, all...)
				for _, id := range []int{0, 3, 31, 4} {
					if wantToldBy(t, l, id, other) {
						asked++
					}
				}
			}
		}
	}
	if asked < 10000 {
		t.Errorf("only %d times", asked)
	}
}

// Long logs, and others that go on otherwise behind what is committed.
func TestWhatIsReadIsWhatLongOnesTell(t *testing.T) {
	next := numbers()
	asked := 0
	for range 300 {
		var all, other []api.Req
		n, size := next(30), 30+next(10)
		for at := range size {
			all = append(all, random(next, at+1))
			other = append(other, all[at])
			if at >= n && next(3) > 0 {
				other[at] = random(next, at+1)
			}
		}
		l := filled(t, n, all[:n+next(size-n+1)]...)
		for _, id := range []int{0, 1, 3, 30, 31, 2} {
			for _, length := range []int{n, n + 1 + next(3), size} {
				if wantToldBy(t, l, id, other[:min(length, size)]) {
					asked++
				}
			}
		}
	}
	if asked < 1000 {
		t.Errorf("only %d times", asked)
	}
}

// Of one that is not clean the log itself tells otherwise, when all of it is committed: that is why it is not read.
func TestWhatIsDirtyMayBeToldOtherwise(t *testing.T) {
	for n := range 9 {
		before, behind := filled(t, n, row()...), filled(t, 9, row()...)
		for _, id := range dirty.Dirty(before) {
			otherwise := false
			for _, q := range reads(id) {
				wantError(t, before, q, api.ErrState)
				reply, _, e := dirty.Read(behind, q)
				otherwise = otherwise || !sameReply(reply, told(t, n, row(), q)) && e == api.OK
			}
			inVain := n >= 2 && id == 3 // but for requests that changed nothing
			if otherwise == inVain {
				t.Errorf("%d committed: of the id %d it is told otherwise: %t", n, id, otherwise)
			}
		}
	}
}
