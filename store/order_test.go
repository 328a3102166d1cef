package store_test

import (
	"fmt"
	"slices"
	"testing"

	"casebook/api"
	"casebook/chart"
	"casebook/pack"
	"casebook/store"
)

// numbers answers a call that answers numbers from 0 to below n, the same ones in each run.
func numbers() func(n int) int {
	state := uint64(1)
	return func(n int) int {
		state = state*6364136223846793005 + 1442695040888963407
		return int((state >> 33) % uint64(n))
	}
}

// script answers so many requests of all kinds and clients, of few ids, some of them old, some that may not be.
func script(size int) []api.Req {
	next := numbers()
	ids := []int{0, 1, 2, 30, api.MaxId, api.MaxId + 1}
	var l []api.Req
	for i := range size {
		q := api.Req{Client: next(api.MaxClients), Seq: i/2 + next(8) - 2, Kind: 1 + next(6), Id: ids[next(len(ids))]}
		switch q.Kind {
		case api.OpCreate:
			q.Data = fmt.Sprint("c", next(3))
		case api.OpUpdate:
			q.Match, q.Data = next(6), fmt.Sprint("u", next(3))
		case api.OpDelete, api.OpVersion:
			q.Match = next(5)
		}
		l = append(l, q)
	}
	return l
}

// model is a store told otherwise: all that was Put, in its order, and what was told of it.
type model struct {
	quota   int
	done    []api.Req
	replies []api.Reply
}

// last answers the place of the last one that a client Put, 0 if there is none.
func (m *model) last(client int) int {
	for i, q := range slices.Backward(m.done) {
		if q.Client == client {
			return i + 1
		}
	}
	return 0
}

func (m *model) seq(client int) int {
	if place := m.last(client); place > 0 {
		return m.done[place-1].Seq
	}
	return 0
}

func (m *model) reply(client int) api.Reply {
	if place := m.last(client); place > 0 {
		return m.replies[place-1]
	}
	return api.Reply{}
}

// versions answers what all that was Put has made of a resource.
func (m *model) versions(id int) []api.Version {
	var l []api.Version
	for _, q := range m.done {
		if q.Id == id {
			l, _ = chart.Do(l, q, m.quota)
		}
	}
	return l
}

// mayBe tells of the requests of a script alone.
func mayBe(q api.Req) bool {
	return q.Seq >= 1 && q.Id <= api.MaxId && (q.Kind != api.OpVersion || q.Match >= 1)
}

func (m *model) put(q api.Req) (api.Reply, int) {
	switch {
	case !mayBe(q) || q.Kind > api.OpDelete:
		return api.Reply{}, api.ErrArg
	case q.Seq <= m.seq(q.Client):
		return api.Reply{}, api.ErrOrder
	}
	_, reply := chart.Do(m.versions(q.Id), q, m.quota)
	m.done, m.replies = append(m.done, q), append(m.replies, reply)
	return reply, api.OK
}

func (m *model) ask(q api.Req) (api.Reply, int) {
	if !mayBe(q) || q.Kind <= api.OpDelete {
		return api.Reply{}, api.ErrArg
	}
	return chart.Ask(m.versions(q.Id), q), api.OK
}

func (m *model) bytes() []byte {
	var w pack.Writer
	w.Num(uint64(len(m.done)))
	for client := range api.MaxClients {
		w.Num(uint64(m.seq(client)))
		w.Num(uint64(m.last(client)))
	}
	for id := range api.MaxId + 1 {
		l := m.versions(id)
		if len(l) == 0 {
			continue
		}
		w.Num(uint64(id))
		w.Num(uint64(len(l)))
		for _, v := range l {
			w.Yes(v.Gone)
			w.Text(v.Data)
		}
	}
	return w.Bytes()
}

// wantModel fails unless a store is seen as its model is.
func wantModel(t *testing.T, s *store.Store, m *model) {
	t.Helper()
	if s.Len() != len(m.done) {
		t.Errorf("%d places; not %d", s.Len(), len(m.done))
	}
	for client := range api.MaxClients {
		wantLast(t, s, client, m.seq(client), m.reply(client), m.last(client))
	}
	var ids []int
	for id := range api.MaxId + 1 {
		want := m.versions(id)
		wantVersions(t, s, id, want...)
		if len(want) > 0 {
			ids = append(ids, id)
		}
	}
	if got := s.Ids(); !slices.Equal(got, ids) {
		t.Errorf("ids %v; not %v", got, ids)
	}
	if got, want := s.Bytes(), m.bytes(); string(got) != string(want) {
		t.Errorf("%x; not %x", got, want)
	}
}

func TestStoreIsAsItsModel(t *testing.T) {
	for _, quota := range []int{1, 2, 5, api.MaxQuota} {
		s, m := opened(t, quota), &model{quota: quota}
		for _, q := range script(300) {
			got, e := s.Put(q)
			if want, wrong := m.put(q); told(got) != told(want) || e != wrong {
				t.Fatalf("Put of %v: %v, %d; not %v, %d", q, got, e, want, wrong)
			}
			got, e = s.Ask(q)
			if want, wrong := m.ask(q); told(got) != told(want) || e != wrong {
				t.Fatalf("Ask of %v: %v, %d; not %v, %d", q, got, e, want, wrong)
			}
			wantModel(t, s, m)
		}
	}
}

// 5.3

func TestTheSameInTheSameOrderIsTheSame(t *testing.T) {
	one, two := opened(t, 5), opened(t, 5)
	for i, q := range script(1000) {
		got, e := one.Put(q)
		again, wrong := two.Put(q)
		if told(got) != told(again) || e != wrong {
			t.Fatalf("%d, %v: %v, %d, and then %v, %d", i, q, got, e, again, wrong)
		}
		if seen(one) != seen(two) {
			t.Fatalf("behind %d, %v:\n%sand\n%s", i, q, seen(one), seen(two))
		}
	}
}

// What was not Put, for it may not be or for it is old, and what was asked only, leaves no trace.
func TestOnlyWhatIsPutIsInTheBytes(t *testing.T) {
	one, two := opened(t, 5), opened(t, 5)
	for _, q := range script(1000) {
		one.Ask(q)
		if _, e := one.Put(q); e == api.OK {
			two.Put(q)
		}
		if string(one.Bytes()) != string(two.Bytes()) {
			t.Fatalf("behind %v: %x and %x", q, one.Bytes(), two.Bytes())
		}
	}
	if one.Len() < 100 {
		t.Errorf("only %d were Put", one.Len())
	}
}

// Other requests, or another order, are other bytes.
func TestOthersAreOtherBytes(t *testing.T) {
	stores := [][]api.Req{
		{},
		{create(0, 1, 3, "a")},
		{create(1, 1, 3, "a")},
		{create(0, 2, 3, "a")},
		{create(0, 1, 4, "a")},
		{create(0, 1, 3, "b")},
		{update(0, 1, 3, 0, "a")},
		{create(0, 1, 3, "a"), update(0, 2, 3, 0, "b")},
		{create(0, 1, 3, "a"), update(0, 2, 3, 0, "")},
		{create(0, 1, 3, "a"), remove(0, 2, 3, 0)},
		{create(0, 1, 3, "a"), update(0, 2, 3, 2, "b")},
		{create(0, 1, 3, "a"), create(1, 1, 4, "b")},
		{create(1, 1, 4, "b"), create(0, 1, 3, "a")},
	}
	made := map[string][]api.Req{}
	for _, l := range stores {
		b := string(filled(t, l...).Bytes())
		if other, ok := made[b]; ok {
			t.Errorf("%v and %v are both %x", other, l, b)
		}
		made[b] = l
	}
}

// T2: each request takes effect at most once, however often it comes.

func TestEachRequestTakesEffectOnce(t *testing.T) {
	once, often := opened(t, 5), opened(t, 5)
	var old []api.Req
	for _, q := range script(300) {
		if _, e := once.Put(q); e != api.OK {
			continue
		}
		if _, e := often.Put(q); e != api.OK {
			t.Fatalf("Put of %v: %d", q, e)
		}
		old = append(old, q)
		for _, again := range old {
			if reply, e := often.Put(again); e != api.ErrOrder || told(reply) != told(api.Reply{}) {
				t.Fatalf("Put again of %v: %v, %d", again, reply, e)
			}
		}
		if seen(often) != seen(once) {
			t.Fatalf("behind %v:\n%sand\n%s", q, seen(often), seen(once))
		}
	}
}

// T2: a resource's versions are 1, 2, 3 and so on, and stay.
func TestVersionsAreOneTwoThree(t *testing.T) {
	s := opened(t, api.MaxQuota)
	for _, q := range script(2000) {
		before := s.Versions(q.Id)
		reply, e := s.Put(q)
		after := s.Versions(q.Id)
		grown := len(before)
		if e == api.OK && reply.Code == api.RDone {
			grown++
			if reply.Version != grown {
				t.Errorf("%v makes version %d behind %d", q, reply.Version, len(before))
			}
		}
		if len(after) != grown || !slices.Equal(after[:len(before)], before) {
			t.Errorf("%v makes %v of %v", q, after, before)
		}
	}
}

func TestExamplesOfTheDocument(t *testing.T) {
	s := opened(t, api.MaxQuota)
	wantPut(t, s, create(1, 1, 3, "a"), api.Reply{Code: api.RDone, Version: 1})
	wantPut(t, s, update(1, 2, 3, 1, "b"), api.Reply{Code: api.RDone, Version: 2})
	wantPut(t, s, update(1, 3, 3, 1, "b"), api.Reply{Code: api.RMatch, Version: 2})
	wantRefused(t, s, "Put", s.Put, update(1, 3, 3, 1, "b"), api.ErrOrder)
	wantPut(t, s, remove(1, 4, 3, 0), api.Reply{Code: api.RDone, Version: 3})
	wantAsk(t, s, asks(api.OpRead, 3, 0), api.Reply{Code: api.RGone, Version: 3})
	wantPut(t, s, create(1, 5, 3, "c"), api.Reply{Code: api.RDone, Version: 4})
}
