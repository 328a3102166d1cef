package store_test

import (
	"fmt"
	"math"
	"slices"
	"strings"
	"testing"

	"casebook/api"
	"casebook/store"
)

func create(client, seq, id int, data string) api.Req {
	return api.Req{Client: client, Seq: seq, Kind: api.OpCreate, Id: id, Data: data}
}

func update(client, seq, id, match int, data string) api.Req {
	return api.Req{Client: client, Seq: seq, Kind: api.OpUpdate, Id: id, Match: match, Data: data}
}

func remove(client, seq, id, match int) api.Req {
	return api.Req{Client: client, Seq: seq, Kind: api.OpDelete, Id: id, Match: match}
}

// asks answers a request of a kind that does not write, of client 1, seq 1.
func asks(kind, id, match int) api.Req {
	return api.Req{Client: 1, Seq: 1, Kind: kind, Id: id, Match: match}
}

// wrong has requests that may not be, of each kind and none; but for the thing that is wrong they are new, and of ids that are in use.
func wrong() []api.Req {
	const seq = api.MaxSeq
	l := []api.Req{
		{},
		{Client: 1, Seq: seq, Id: 3},
		{Client: 1, Seq: seq, Kind: -1, Id: 3},
		{Client: 1, Seq: seq, Kind: api.OpHistory + 1, Id: 3},
		{Client: 1, Seq: seq, Kind: math.MaxInt, Id: 3},
		{Client: 1, Seq: seq, Kind: api.OpCreate, Id: 3, Match: 1},
		{Client: 1, Seq: seq, Kind: api.OpVersion, Id: 3},
		create(1, seq, 3, strings.Repeat("d", api.MaxData+1)),
		update(1, seq, 3, 0, strings.Repeat("d", api.MaxData+1)),
		{Client: 1, Seq: seq, Kind: api.OpDelete, Id: 3, Data: "d"},
	}
	for kind := api.OpCreate; kind <= api.OpHistory; kind++ {
		for _, client := range noClients() {
			l = append(l, api.Req{Client: client, Seq: seq, Kind: kind, Id: 3})
		}
		for _, id := range noIds() {
			l = append(l, api.Req{Client: 1, Seq: seq, Kind: kind, Id: id})
		}
		for _, none := range []int{math.MinInt, -1, 0, api.MaxSeq + 1, math.MaxInt} {
			l = append(l, api.Req{Client: 1, Seq: none, Kind: kind, Id: 3})
		}
		for _, none := range []int{math.MinInt, -1, api.MaxQuota + 1, math.MaxInt} {
			l = append(l, api.Req{Client: 1, Seq: seq, Kind: kind, Id: 3, Match: none})
		}
	}
	return l
}

func noClients() []int { return []int{math.MinInt, -1, api.MaxClients, 1 << 32, math.MaxInt} }

func noIds() []int { return []int{math.MinInt, -1, api.MaxId + 1, 1 << 32, math.MaxInt} }

// opened answers a new store.
func opened(t *testing.T, quota int) *store.Store {
	t.Helper()
	s, e := store.New(quota)
	if s == nil || e != api.OK {
		t.Fatalf("New(%d): %v, %d", quota, s, e)
	}
	return s
}

// filled answers a store with a quota of 4 in which these were Put.
func filled(t *testing.T, l ...api.Req) *store.Store {
	t.Helper()
	s := opened(t, 4)
	for _, q := range l {
		if _, e := s.Put(q); e != api.OK {
			t.Fatalf("Put of %v: %d", q, e)
		}
	}
	return s
}

// inUse answers a store of some clients and some resources, one of them gone, one at its quota.
func inUse(t *testing.T) *store.Store {
	t.Helper()
	return filled(t,
		create(1, 2, 3, "a"), update(1, 5, 3, 1, "b"), create(0, 300, 31, "c"), remove(1, 6, 31, 0),
		create(3, 1, 0, ""), update(3, 2, 0, 0, "x"), remove(3, 3, 0, 2), create(3, 4, 0, "y"), update(3, 9, 0, 0, "z"),
	)
}

// seen tells all that can be seen of a store.
func seen(s *store.Store) string {
	var w strings.Builder
	fmt.Fprintln(&w, "places", s.Len(), "ids", s.Ids())
	for client := -1; client <= api.MaxClients; client++ {
		reply, place := s.Last(client)
		fmt.Fprintln(&w, "client", client, s.Seq(client), told(reply), place)
	}
	for id := -1; id <= api.MaxId+1; id++ {
		reply, e := s.Ask(asks(api.OpHistory, id, 0))
		fmt.Fprintf(&w, "id %d: %v %s %d\n", id, s.Versions(id), told(reply), e)
	}
	fmt.Fprintf(&w, "%x\n", s.Bytes())
	return w.String()
}

// told answers a reply as a text, a nil list as an empty one.
func told(r api.Reply) string {
	return fmt.Sprintf("%d %d %q %v", r.Code, r.Version, r.Data, r.Versions)
}

// wantPut fails unless a request is Put and told just this.
func wantPut(t *testing.T, s *store.Store, q api.Req, want api.Reply) {
	t.Helper()
	if got, e := s.Put(q); told(got) != told(want) || e != api.OK {
		t.Errorf("Put of %v: %v, %d; not %v", q, got, e, want)
	}
}

// wantAsk fails unless a request is told just this, and nothing changes by it.
func wantAsk(t *testing.T, s *store.Store, q api.Req, want api.Reply) {
	t.Helper()
	before := seen(s)
	if got, e := s.Ask(q); told(got) != told(want) || e != api.OK {
		t.Errorf("Ask of %v: %v, %d; not %v", q, got, e, want)
	}
	if after := seen(s); after != before {
		t.Errorf("Ask of %v has changed\n%sto\n%s", q, before, after)
	}
}

// wantRefused fails unless a call tells just this error, and nothing changes by it.
func wantRefused(t *testing.T, s *store.Store, name string, call func(api.Req) (api.Reply, int), q api.Req, want int) {
	t.Helper()
	before := seen(s)
	if got, e := call(q); told(got) != told(api.Reply{}) || e != want {
		t.Errorf("%s of %v: %v, %d; not %d", name, q, got, e, want)
	}
	if after := seen(s); after != before {
		t.Errorf("%s of %v has changed\n%sto\n%s", name, q, before, after)
	}
}

// wantLast fails unless this is the last one of a client.
func wantLast(t *testing.T, s *store.Store, client, seq int, want api.Reply, at int) {
	t.Helper()
	if got := s.Seq(client); got != seq {
		t.Errorf("Seq(%d): %d; not %d", client, got, seq)
	}
	if got, place := s.Last(client); told(got) != told(want) || place != at {
		t.Errorf("Last(%d): %v, %d; not %v, %d", client, got, place, want, at)
	}
}

// 5.1: New

func TestNewOfNoQuota(t *testing.T) {
	for _, quota := range []int{math.MinInt, -1, 0, api.MaxQuota + 1, 1<<32 + 1, math.MaxInt} {
		if s, e := store.New(quota); s != nil || e != api.ErrArg {
			t.Errorf("New(%d): %v, %d", quota, s, e)
		}
	}
}

func TestNewHasNothing(t *testing.T) {
	s := opened(t, 7)
	if s.Len() != 0 || len(s.Ids()) != 0 {
		t.Errorf("%d places, ids %v", s.Len(), s.Ids())
	}
	for client := range api.MaxClients {
		wantLast(t, s, client, 0, api.Reply{}, 0)
	}
	for id := range api.MaxId + 1 {
		if l := s.Versions(id); len(l) != 0 {
			t.Errorf("id %d: %v", id, l)
		}
		wantAsk(t, s, asks(api.OpRead, id, 0), api.Reply{Code: api.RNone})
	}
}

// Each resource has just so many versions as its store's quota.
func TestQuotas(t *testing.T) {
	for quota := 1; quota <= api.MaxQuota; quota++ {
		s := opened(t, quota)
		seq := 0
		for _, id := range []int{0, 3, api.MaxId} {
			seq++
			wantPut(t, s, create(2, seq, id, "a"), api.Reply{Code: api.RDone, Version: 1})
			for number := 2; number <= quota; number++ {
				seq++
				wantPut(t, s, update(2, seq, id, number-1, "b"), api.Reply{Code: api.RDone, Version: number})
			}
			seq++
			wantPut(t, s, update(2, seq, id, 0, "c"), api.Reply{Code: api.RQuota, Version: quota})
			if got := len(s.Versions(id)); got != quota {
				t.Errorf("quota %d: %d versions of %d", quota, got, id)
			}
		}
	}
}

// 5.1: Put

func TestPutDoesOnItsResource(t *testing.T) {
	s := opened(t, 4)
	for i, c := range []struct {
		q    api.Req
		want api.Reply
	}{
		{update(0, 1, 3, 0, "a"), api.Reply{Code: api.RNone}},
		{remove(0, 2, 3, 1), api.Reply{Code: api.RNone}},
		{create(0, 3, 3, "a"), api.Reply{Code: api.RDone, Version: 1}},
		{create(1, 1, 3, "b"), api.Reply{Code: api.RExists, Version: 1}},
		{create(1, 2, 4, "b"), api.Reply{Code: api.RDone, Version: 1}},
		{update(1, 3, 3, 1, "c"), api.Reply{Code: api.RDone, Version: 2}},
		{update(0, 4, 3, 1, "d"), api.Reply{Code: api.RMatch, Version: 2}},
		{update(0, 5, 4, 1, ""), api.Reply{Code: api.RDone, Version: 2}},
		{remove(2, 9, 3, 0), api.Reply{Code: api.RDone, Version: 3}},
		{update(2, 10, 3, 3, "e"), api.Reply{Code: api.RGone, Version: 3}},
		{create(2, 11, 3, "f"), api.Reply{Code: api.RDone, Version: 4}},
		{remove(3, 1, 3, 4), api.Reply{Code: api.RQuota, Version: 4}},
		{create(3, api.MaxSeq, 31, strings.Repeat("d", api.MaxData)), api.Reply{Code: api.RDone, Version: 1}},
	} {
		wantPut(t, s, c.q, c.want)
		wantLast(t, s, c.q.Client, c.q.Seq, c.want, i+1)
		if s.Len() != i+1 {
			t.Errorf("%d places behind %d", s.Len(), i+1)
		}
	}
	wantVersions(t, s, 3, api.Version{Data: "a"}, api.Version{Data: "c"}, api.Version{Gone: true}, api.Version{Data: "f"})
	wantVersions(t, s, 4, api.Version{Data: "b"}, api.Version{})
	wantVersions(t, s, 31, api.Version{Data: strings.Repeat("d", api.MaxData)})
	if got := s.Ids(); !slices.Equal(got, []int{3, 4, 31}) {
		t.Errorf("ids %v", got)
	}
}

// wantVersions fails unless a resource has just these.
func wantVersions(t *testing.T, s *store.Store, id int, want ...api.Version) {
	t.Helper()
	if got := s.Versions(id); !slices.Equal(got, want) {
		t.Errorf("id %d: %v; not %v", id, got, want)
	}
}

func TestPutOfWhatMayNotBe(t *testing.T) {
	for _, s := range []*store.Store{opened(t, 4), inUse(t)} {
		for _, q := range wrong() {
			wantRefused(t, s, "Put", s.Put, q, api.ErrArg)
		}
	}
}

func TestPutOfWhatDoesNotWrite(t *testing.T) {
	for _, s := range []*store.Store{opened(t, 4), inUse(t)} {
		for _, seq := range []int{1, 6, api.MaxSeq} { // old ones too: ErrArg comes ahead of ErrOrder
			for _, q := range []api.Req{asks(api.OpRead, 3, 0), asks(api.OpVersion, 3, 1), asks(api.OpHistory, 3, 0)} {
				q.Seq = seq
				wantRefused(t, s, "Put", s.Put, q, api.ErrArg)
			}
		}
	}
}

func TestPutOfWhatMayNotBeAndIsOld(t *testing.T) {
	s := inUse(t)
	for _, q := range wrong() {
		if q.Seq == api.MaxSeq {
			q.Seq = 1
		}
		wantRefused(t, s, "Put", s.Put, q, api.ErrArg)
	}
}

func TestPutOutOfOrder(t *testing.T) {
	s := inUse(t)
	for client, newest := range []int{300, 6, 0, 9} {
		for _, seq := range []int{1, 2, newest - 1, newest} {
			if seq < 1 || seq > newest {
				continue
			}
			wantRefused(t, s, "Put", s.Put, create(client, seq, 9, "new"), api.ErrOrder)
			wantRefused(t, s, "Put", s.Put, update(client, seq, 3, 2, "b"), api.ErrOrder)
			wantRefused(t, s, "Put", s.Put, remove(client, seq, 3, 0), api.ErrOrder)
		}
	}
	wantPut(t, s, create(1, 7, 9, "new"), api.Reply{Code: api.RDone, Version: 1})
	wantPut(t, s, create(2, 1, 10, "new"), api.Reply{Code: api.RDone, Version: 1})
}

// What is told no to has been Put, too.
func TestPutTwiceOfWhatIsToldNo(t *testing.T) {
	for _, q := range []api.Req{
		create(1, 7, 3, "a"), update(1, 7, 9, 0, "a"), remove(1, 7, 31, 0), update(1, 7, 3, 1, "a"), remove(1, 7, 0, 0),
	} {
		s := inUse(t)
		reply, e := s.Put(q)
		if reply.Code == api.RDone || e != api.OK {
			t.Errorf("Put of %v: %v, %d", q, reply, e)
		}
		wantLast(t, s, 1, 7, reply, 10)
		wantRefused(t, s, "Put", s.Put, q, api.ErrOrder)
		wantRefused(t, s, "Put", s.Put, create(1, 7, 20, "a"), api.ErrOrder)
	}
}

func TestPutUpToTheLastSeq(t *testing.T) {
	s := filled(t, create(0, api.MaxSeq-1, 3, "a"), update(0, api.MaxSeq, 3, 1, "b"))
	wantLast(t, s, 0, api.MaxSeq, api.Reply{Code: api.RDone, Version: 2}, 2)
	wantRefused(t, s, "Put", s.Put, remove(0, api.MaxSeq, 3, 0), api.ErrOrder)
	wantRefused(t, s, "Put", s.Put, remove(0, api.MaxSeq+1, 3, 0), api.ErrArg)
}

// 5.1: Ask

func TestAsk(t *testing.T) {
	s := inUse(t)
	for _, c := range []struct {
		q    api.Req
		want api.Reply
	}{
		{asks(api.OpRead, 3, 0), api.Reply{Code: api.RDone, Version: 2, Data: "b"}},
		{asks(api.OpRead, 31, 0), api.Reply{Code: api.RGone, Version: 2}},
		{asks(api.OpRead, 4, 0), api.Reply{Code: api.RNone}},
		{asks(api.OpRead, 0, 0), api.Reply{Code: api.RDone, Version: 4, Data: "y"}},
		{asks(api.OpVersion, 3, 1), api.Reply{Code: api.RDone, Version: 1, Data: "a"}},
		{asks(api.OpVersion, 3, 3), api.Reply{Code: api.RNone}},
		{asks(api.OpVersion, 31, 2), api.Reply{Code: api.RGone, Version: 2}},
		{asks(api.OpVersion, 0, api.MaxQuota), api.Reply{Code: api.RNone}},
		{asks(api.OpHistory, 3, 0), api.Reply{Code: api.RDone, Version: 2, Versions: []int{1, 2}}},
		{asks(api.OpHistory, 31, 0), api.Reply{Code: api.RDone, Version: 2, Versions: []int{1, -2}}},
		{asks(api.OpHistory, 0, 0), api.Reply{Code: api.RDone, Version: 4, Versions: []int{1, 2, -3, 4}}},
		{asks(api.OpHistory, 4, 0), api.Reply{Code: api.RNone}},
	} {
		for client := range api.MaxClients {
			for _, seq := range []int{1, 300, api.MaxSeq} { // whoever asks, old or new
				q := c.q
				q.Client, q.Seq = client, seq
				wantAsk(t, s, q, c.want)
			}
		}
	}
}

func TestAskOfWhatMayNotBe(t *testing.T) {
	for _, s := range []*store.Store{opened(t, 4), inUse(t)} {
		for _, q := range wrong() {
			wantRefused(t, s, "Ask", s.Ask, q, api.ErrArg)
		}
	}
}

func TestAskOfWhatWrites(t *testing.T) {
	for _, s := range []*store.Store{opened(t, 4), inUse(t)} {
		for _, seq := range []int{1, api.MaxSeq} {
			wantRefused(t, s, "Ask", s.Ask, create(1, seq, 9, "a"), api.ErrArg)
			wantRefused(t, s, "Ask", s.Ask, update(1, seq, 3, 2, "a"), api.ErrArg)
			wantRefused(t, s, "Ask", s.Ask, remove(1, seq, 3, 0), api.ErrArg)
		}
	}
}

// 5.1: Seq, Last, Ids, Versions

func TestOfNoSuchClient(t *testing.T) {
	s := inUse(t)
	for _, client := range append(noClients(), 2) {
		wantLast(t, s, client, 0, api.Reply{}, 0)
	}
}

func TestOfNoSuchId(t *testing.T) {
	s := inUse(t)
	for _, id := range append(noIds(), 1, 2, 4, 30) {
		wantVersions(t, s, id)
	}
}

func TestLastOfEachClient(t *testing.T) {
	s := inUse(t)
	wantLast(t, s, 0, 300, api.Reply{Code: api.RDone, Version: 1}, 3)
	wantLast(t, s, 1, 6, api.Reply{Code: api.RDone, Version: 2}, 4)
	wantLast(t, s, 2, 0, api.Reply{}, 0)
	wantLast(t, s, 3, 9, api.Reply{Code: api.RQuota, Version: 4}, 9)
	if s.Len() != 9 {
		t.Errorf("%d places", s.Len())
	}
}

// In whatever order they were made; not those of which something was only wanted.
func TestIdsRise(t *testing.T) {
	s := opened(t, 2)
	var want []int
	for i := range api.MaxId + 1 {
		id := (i*13 + 5) % (api.MaxId + 1)
		wantPut(t, s, update(0, i+1, id, 0, "a"), api.Reply{Code: api.RNone})
		if got := s.Ids(); !slices.Equal(got, want) {
			t.Errorf("%v; not %v", got, want)
		}
		wantPut(t, s, create(1, i+1, id, "a"), api.Reply{Code: api.RDone, Version: 1})
		want = append(want, id)
		slices.Sort(want)
		if got := s.Ids(); !slices.Equal(got, want) {
			t.Errorf("%v; not %v", got, want)
		}
	}
}

func TestAnswersAreTheCallersOwn(t *testing.T) {
	s := inUse(t)
	before := seen(s)
	for range 2 {
		for _, id := range s.Ids() {
			l := s.Versions(id)
			for i := range l {
				l[i] = api.Version{Gone: !l[i].Gone, Data: "changed"}
			}
			_ = append(l[:1], api.Version{Data: "more"})
		}
		ids := s.Ids()
		clear(ids)
		_ = append(ids[:1], 77)
		clear(s.Bytes())
		reply, _ := s.Ask(asks(api.OpHistory, 0, 0))
		clear(reply.Versions)
		if after := seen(s); after != before {
			t.Errorf("%shas become\n%s", before, after)
		}
	}
}

// What was answered stays as it was, whatever is Put behind it.
func TestAnswersStay(t *testing.T) {
	s := inUse(t)
	ids, versions, b := s.Ids(), s.Versions(3), s.Bytes()
	history, _ := s.Ask(asks(api.OpHistory, 3, 0))
	before := fmt.Sprint(ids, versions, b, history)
	wantPut(t, s, remove(2, 1, 3, 0), api.Reply{Code: api.RDone, Version: 3})
	wantPut(t, s, create(2, 2, 1, "n"), api.Reply{Code: api.RDone, Version: 1})
	if after := fmt.Sprint(ids, versions, b, history); after != before {
		t.Errorf("%s has become %s", before, after)
	}
}

func TestStoresAreApart(t *testing.T) {
	one, two := inUse(t), opened(t, 4)
	before := seen(two)
	wantPut(t, one, create(2, 1, 1, "n"), api.Reply{Code: api.RDone, Version: 1})
	if after := seen(two); after != before {
		t.Errorf("%shas become\n%s", before, after)
	}
}

// 5.2

func TestNil(t *testing.T) {
	var s *store.Store
	for _, q := range append(wrong(), create(1, 1, 3, "a"), update(1, 1, 3, 0, "a"), remove(1, 1, 3, 0), asks(api.OpRead, 3, 0), asks(api.OpVersion, 3, 1), asks(api.OpHistory, 3, 0)) {
		wantRefused(t, s, "Put", s.Put, q, api.ErrArg)
		wantRefused(t, s, "Ask", s.Ask, q, api.ErrArg)
	}
	if s.Len() != 0 || len(s.Ids()) != 0 || len(s.Bytes()) != 0 {
		t.Errorf("%d, %v, %x", s.Len(), s.Ids(), s.Bytes())
	}
	for n := -1; n <= api.MaxId+1; n++ {
		wantLast(t, s, n, 0, api.Reply{}, 0)
		wantVersions(t, s, n)
	}
}

func TestBytes(t *testing.T) {
	long := strings.Repeat("d", api.MaxData)
	for _, c := range []struct {
		l    []api.Req
		want string
	}{
		{nil, "\x00" + "\x00\x00" + "\x00\x00" + "\x00\x00" + "\x00\x00"},
		{[]api.Req{create(0, 1, 0, "")}, "\x01" + "\x01\x01" + "\x00\x00" + "\x00\x00" + "\x00\x00" + "\x00\x01\x00\x00"},
		{[]api.Req{update(3, 300, 5, 0, "a")}, "\x01" + "\x00\x00" + "\x00\x00" + "\x00\x00" + "\xac\x02\x01"},
		{
			[]api.Req{create(2, 4, 31, "z"), create(1, 2, 3, "ab"), remove(1, api.MaxSeq, 3, 1), create(2, 5, 3, long), create(2, 6, 3, "no")},
			"\x05" + "\x00\x00" + "\x80\x80\x80\x80\x04\x03" + "\x06\x05" + "\x00\x00" +
				"\x03\x03" + "\x00\x02ab" + "\x01\x00" + "\x00\x40" + long +
				"\x1f\x01" + "\x00\x01z",
		},
	} {
		s := filled(t, c.l...)
		for range 2 {
			if got := s.Bytes(); string(got) != c.want {
				t.Errorf("of %v: %x; not %x", c.l, got, c.want)
			}
		}
	}
}

// Places and versions of more than one byte, up to the greatest quota.
func TestBytesOfALongLife(t *testing.T) {
	const puts = 300
	s := opened(t, api.MaxQuota)
	wantPut(t, s, create(1, 1, 7, "a"), api.Reply{Code: api.RDone, Version: 1})
	want := "\xac\x02" + "\x00\x00" + "\xac\x02\xac\x02" + "\x00\x00" + "\x00\x00" + "\x07\x64" + "\x00\x01a"
	for seq := 2; seq <= puts; seq++ {
		if _, e := s.Put(update(1, seq, 7, 0, "b")); e != api.OK {
			t.Errorf("seq %d: %d", seq, e)
		}
		if seq <= api.MaxQuota {
			want += "\x00\x01b"
		}
	}
	if got := s.Bytes(); string(got) != want {
		t.Errorf("%x; not %x", got, want)
	}
}
