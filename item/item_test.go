package item_test

import (
	"math"
	"strings"
	"testing"

	"casebook/api"
	"casebook/item"
	"casebook/pack"
)

const longest = api.MaxData

// req answers a request of client 1, seq 5, about id 3.
func req(kind, match int, data string) api.Req {
	return api.Req{Client: 1, Seq: 5, Kind: kind, Id: 3, Match: match, Data: data}
}

// maybe are requests that may be: ordinary ones and those at the edges.
func maybe() []api.Req {
	most := strings.Repeat("d", longest)
	return []api.Req{
		req(api.OpCreate, 0, "a"),
		req(api.OpCreate, 0, ""),
		req(api.OpCreate, 0, most),
		req(api.OpCreate, 0, "\x00\xff\x80"),
		req(api.OpUpdate, 0, "b"),
		req(api.OpUpdate, 1, ""),
		req(api.OpUpdate, api.MaxQuota, most),
		req(api.OpDelete, 0, ""),
		req(api.OpDelete, 1, ""),
		req(api.OpDelete, api.MaxQuota, ""),
		req(api.OpRead, 0, ""),
		req(api.OpVersion, 1, ""),
		req(api.OpVersion, api.MaxQuota, ""),
		req(api.OpHistory, 0, ""),
		{Client: 0, Seq: 1, Kind: api.OpCreate, Id: 0},
		{Client: api.MaxClients - 1, Seq: api.MaxSeq, Kind: api.OpUpdate, Id: api.MaxId, Match: api.MaxQuota, Data: most},
		{Client: api.MaxClients - 1, Seq: api.MaxSeq, Kind: api.OpHistory, Id: api.MaxId},
	}
}

// changed answers a request that may be, but for one thing.
func changed(kind int, change func(q *api.Req)) api.Req {
	q := req(kind, 0, "")
	if kind == api.OpVersion {
		q.Match = 1
	}
	change(&q)
	return q
}

// never are requests that may not be.
func never() []api.Req {
	l := []api.Req{{}, {Seq: 1}, {Kind: api.OpRead}}
	for _, n := range []int{math.MinInt, -1, 0, api.OpHistory + 1, math.MaxInt} {
		l = append(l, changed(api.OpRead, func(q *api.Req) { q.Kind = n }))
	}
	for kind := api.OpCreate; kind <= api.OpHistory; kind++ {
		for _, n := range []int{math.MinInt, -1, api.MaxClients, math.MaxInt} {
			l = append(l, changed(kind, func(q *api.Req) { q.Client = n }))
		}
		for _, n := range []int{math.MinInt, -1, 0, api.MaxSeq + 1, math.MaxInt} {
			l = append(l, changed(kind, func(q *api.Req) { q.Seq = n }))
		}
		for _, n := range []int{math.MinInt, -1, api.MaxId + 1, math.MaxInt} {
			l = append(l, changed(kind, func(q *api.Req) { q.Id = n }))
		}
		for _, n := range []int{math.MinInt, -1, api.MaxQuota + 1, math.MaxInt} {
			l = append(l, changed(kind, func(q *api.Req) { q.Match = n }))
		}
		l = append(l, changed(kind, func(q *api.Req) { q.Data = strings.Repeat("d", longest+1) }))
	}
	return append(l,
		req(api.OpCreate, 1, "a"),
		req(api.OpRead, 1, ""),
		req(api.OpHistory, 1, ""),
		req(api.OpVersion, 0, ""),
		req(api.OpDelete, 1, "a"),
		req(api.OpRead, 0, "a"),
		req(api.OpVersion, 1, "a"),
		req(api.OpHistory, 0, "a"),
	)
}

// plain answers the bytes of a request, whether it may be or not.
func plain(q api.Req) []byte {
	var w pack.Writer
	for _, n := range []int{q.Client, q.Seq, q.Kind, q.Id, q.Match} {
		w.Num(uint64(n))
	}
	w.Text(q.Data)
	return w.Bytes()
}

// mustBeNoReq tells of bytes that are taken for a request.
func mustBeNoReq(t *testing.T, name string, b []byte) {
	t.Helper()
	if q, e := item.GetReq(b); e != api.ErrBad || q != (api.Req{}) {
		t.Errorf("%s: GetReq of %x is %v, %d", name, b, q, e)
	}
}

// neighbours calls back with all bytes that are b with one byte changed, taken out, or put in.
func neighbours(b []byte, back func(other []byte)) {
	for i := range len(b) + 1 {
		for c := range 256 {
			back(append(append(append([]byte{}, b[:i]...), byte(c)), b[i:]...))
			if i < len(b) {
				back(append(append(append([]byte{}, b[:i]...), byte(c)), b[i+1:]...))
			}
		}
		if i < len(b) {
			back(append(append([]byte{}, b[:i]...), b[i+1:]...))
		}
	}
}

// mustTakeOnlyWhatIsPut tells of bytes near b that are taken for a thing which is put otherwise.
func mustTakeOnlyWhatIsPut[T any](t *testing.T, b []byte, get func([]byte) (T, int), put func(T) ([]byte, int)) {
	t.Helper()
	neighbours(b, func(other []byte) {
		got, e := get(other)
		if e == api.ErrBad {
			return
		}
		if again, wrong := put(got); e != api.OK || wrong != api.OK || string(again) != string(other) {
			t.Errorf("%x is taken for %v (%d), which is %x, %d", other, got, e, again, wrong)
		}
	})
}

// 2.1

func TestMayReq(t *testing.T) {
	for _, q := range maybe() {
		if !item.MayReq(q) {
			t.Errorf("%v may be", q)
		}
	}
	for _, q := range never() {
		if item.MayReq(q) {
			t.Errorf("%v may not be", q)
		}
	}
}

func TestMayReqMatchAndDataOfEachKind(t *testing.T) {
	for _, c := range []struct {
		kind  int
		match [3]bool // 0, 1, the most
		data  bool
	}{
		{api.OpCreate, [3]bool{true, false, false}, true},
		{api.OpUpdate, [3]bool{true, true, true}, true},
		{api.OpDelete, [3]bool{true, true, true}, false},
		{api.OpRead, [3]bool{true, false, false}, false},
		{api.OpVersion, [3]bool{false, true, true}, false},
		{api.OpHistory, [3]bool{true, false, false}, false},
	} {
		for i, match := range []int{0, 1, api.MaxQuota} {
			if got := item.MayReq(req(c.kind, match, "")); got != c.match[i] {
				t.Errorf("kind %d, Match %d: %v", c.kind, match, got)
			}
			if got := item.MayReq(req(c.kind, match, "x")); got != (c.match[i] && c.data) {
				t.Errorf("kind %d, Match %d, with Data: %v", c.kind, match, got)
			}
		}
	}
}

func TestWrites(t *testing.T) {
	for kind, want := range map[int]bool{
		api.OpCreate: true, api.OpUpdate: true, api.OpDelete: true,
		api.OpRead: false, api.OpVersion: false, api.OpHistory: false,
		0: false, -1: false, 7: false, math.MinInt: false, math.MaxInt: false,
	} {
		if got := item.Writes(api.Req{Kind: kind}); got != want {
			t.Errorf("Writes of kind %d: %v", kind, got)
		}
	}
}

// 2.2

func TestPutReqBytes(t *testing.T) {
	for want, q := range map[string]api.Req{
		"\x01\x05\x01\x03\x00\x02ab": req(api.OpCreate, 0, "ab"),
		"\x01\x05\x02\x03\x64\x01b":  req(api.OpUpdate, 100, "b"),
		"\x01\x05\x05\x03\x07\x00":   req(api.OpVersion, 7, ""),
		"\x03\x80\x80\x80\x80\x04\x03\x1f\x02\x00": {
			Client: 3, Seq: 1 << 30, Kind: api.OpDelete, Id: 31, Match: 2,
		},
		"\x00\xac\x02\x04\x00\x00\x00": {Seq: 300, Kind: api.OpRead},
	} {
		if b, e := item.PutReq(q); string(b) != want || e != api.OK {
			t.Errorf("PutReq of %v: %x, %d", q, b, e)
		}
	}
}

func TestPutReqOfNone(t *testing.T) {
	for _, q := range never() {
		if b, e := item.PutReq(q); len(b) != 0 || e != api.ErrArg {
			t.Errorf("PutReq of %v: %x, %d", q, b, e)
		}
	}
}

func TestGetReqOfBytes(t *testing.T) {
	q, e := item.GetReq([]byte("\x02\xac\x02\x02\x1f\x64\x02\xff\x00"))
	if want := (api.Req{Client: 2, Seq: 300, Kind: api.OpUpdate, Id: 31, Match: 100, Data: "\xff\x00"}); q != want || e != api.OK {
		t.Errorf("%v, %d", q, e)
	}
}

func TestGetReqOfWhatIsNone(t *testing.T) {
	mustBeNoReq(t, "nil", nil)
	mustBeNoReq(t, "empty", []byte{})
	for _, q := range never() {
		mustBeNoReq(t, "a request that may not be", plain(q))
	}
	for _, q := range maybe() {
		b := plain(q)
		for n := range b {
			mustBeNoReq(t, "cut", b[:n])
		}
		mustBeNoReq(t, "with a byte more", append(b, 0))
		mustBeNoReq(t, "twice", append(b, b...))
	}
	mustBeNoReq(t, "a number longer than it must be", []byte("\x81\x00\x05\x01\x03\x00\x00"))
	mustBeNoReq(t, "a great client", []byte("\x80\x80\x80\x80\x80\x80\x80\x80\x80\x01\x05\x01\x03\x00\x00"))
	mustBeNoReq(t, "a great length", []byte("\x01\x05\x01\x03\x00\xff\xff\xff\xff\xff\xff\xff\xff\xff\x01"))
}

func TestGetReqTakesOnlyWhatPutReqMakes(t *testing.T) {
	for _, q := range maybe() {
		mustTakeOnlyWhatIsPut(t, plain(q), item.GetReq, item.PutReq)
	}
}

// 2.4

func TestRequestsComeBack(t *testing.T) {
	l := maybe()
	for seq := 1; seq <= api.MaxSeq; seq = seq*3 + 1 {
		for client := range api.MaxClients {
			l = append(l, api.Req{Client: client, Seq: seq, Kind: api.OpUpdate, Id: seq % 32, Match: seq % 101, Data: strings.Repeat("é", seq%33)})
		}
	}
	for _, q := range l {
		b, e := item.PutReq(q)
		if e != api.OK {
			t.Errorf("PutReq of %v: %d", q, e)
		}
		before := string(b)
		if got, e := item.GetReq(b); got != q || e != api.OK {
			t.Errorf("%v comes back as %v, %d", q, got, e)
		}
		if string(b) != before {
			t.Errorf("what was handed in has changed: %x", b)
		}
	}
}
