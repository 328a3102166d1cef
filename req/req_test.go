package req_test

import (
	"math"
	"slices"
	"strings"
	"testing"

	"casebook/api"
	"casebook/req"
)

// kinds has a request that may be of each kind, all of client 1, seq 5, about id 3.
func kinds() []api.Req {
	return []api.Req{
		{Client: 1, Seq: 5, Kind: api.OpCreate, Id: 3, Data: "a"},
		{Client: 1, Seq: 5, Kind: api.OpUpdate, Id: 3, Match: 2, Data: "b"},
		{Client: 1, Seq: 5, Kind: api.OpDelete, Id: 3, Match: 2},
		{Client: 1, Seq: 5, Kind: api.OpRead, Id: 3},
		{Client: 1, Seq: 5, Kind: api.OpVersion, Id: 3, Match: 2},
		{Client: 1, Seq: 5, Kind: api.OpHistory, Id: 3},
	}
}

// with has each of l, changed.
func with(l []api.Req, change func(q *api.Req)) []api.Req {
	l = slices.Clone(l)
	for i := range l {
		change(&l[i])
	}
	return l
}

// never has requests that may not be: some for what is asked of their kind, the others for their Client, Seq or Id alone.
func never() []api.Req {
	l := []api.Req{
		{},
		{Id: 3},
		{Seq: 5},
		{Client: 1, Seq: 5, Id: 3},
		{Client: 1, Seq: 5, Kind: -1, Id: 3},
		{Client: 1, Seq: 5, Kind: api.OpHistory + 1, Id: 3},
		{Client: 1, Seq: 5, Kind: api.OpCreate, Id: 3, Match: 1},
		{Client: 1, Seq: 5, Kind: api.OpCreate, Id: 3, Data: strings.Repeat("d", api.MaxData+1)},
		{Client: 1, Seq: 5, Kind: api.OpUpdate, Id: 3, Match: api.MaxQuota + 1},
		{Client: 1, Seq: 5, Kind: api.OpUpdate, Id: 3, Match: -1},
		{Client: 1, Seq: 5, Kind: api.OpDelete, Id: 3, Data: "x"},
		{Client: 1, Seq: 5, Kind: api.OpRead, Id: 3, Match: 1},
		{Client: 1, Seq: 5, Kind: api.OpVersion, Id: 3},
		{Client: 1, Seq: 5, Kind: api.OpHistory, Id: 3, Data: "x"},
	}
	for _, n := range []int{math.MinInt, -1, api.MaxClients, math.MaxInt} {
		l = append(l, with(kinds(), func(q *api.Req) { q.Client = n })...)
	}
	for _, n := range []int{math.MinInt, -1, 0, api.MaxSeq + 1, math.MaxInt} {
		l = append(l, with(kinds(), func(q *api.Req) { q.Seq = n })...)
	}
	for _, n := range []int{math.MinInt, -2, -1, api.MaxId + 1, math.MaxInt} {
		l = append(l, with(kinds(), func(q *api.Req) { q.Id = n })...)
	}
	return l
}

// 3.1: Same

func TestSameOfCopies(t *testing.T) {
	for _, l := range [][]api.Req{kinds(), never()} {
		for _, q := range l {
			twin := q
			twin.Data = strings.Clone(q.Data)
			if !req.Same(q, twin) {
				t.Errorf("%v is not the same as itself", q)
			}
		}
	}
}

func TestSameInAllParts(t *testing.T) {
	// each makes another request of any
	changes := map[string]func(q *api.Req){
		"Client":          func(q *api.Req) { q.Client++ },
		"Client, far":     func(q *api.Req) { q.Client ^= math.MinInt },
		"Seq":             func(q *api.Req) { q.Seq++ },
		"Seq, far":        func(q *api.Req) { q.Seq += 1 << 32 },
		"Kind":            func(q *api.Req) { q.Kind++ },
		"Kind, far":       func(q *api.Req) { q.Kind ^= math.MinInt },
		"Id":              func(q *api.Req) { q.Id-- },
		"Id, far":         func(q *api.Req) { q.Id = ^q.Id },
		"Match":           func(q *api.Req) { q.Match++ },
		"Match, far":      func(q *api.Req) { q.Match -= 1 << 32 },
		"Data, longer":    func(q *api.Req) { q.Data += "\x00" },
		"Data, otherwise": func(q *api.Req) { q.Data = "A" + q.Data[min(1, len(q.Data)):] },
		"Id and Match":    func(q *api.Req) { q.Id, q.Match = q.Id-1, q.Match+1 },
		"Client and Seq":  func(q *api.Req) { q.Client, q.Seq = q.Client+1, q.Seq-1 },
	}
	for _, l := range [][]api.Req{kinds(), never()} {
		for name, change := range changes {
			for i, other := range with(l, change) {
				if req.Same(l[i], other) || req.Same(other, l[i]) {
					t.Errorf("%s: %v is the same as %v", name, l[i], other)
				}
			}
		}
	}
}

// 3.1: SameReply

// replies has replies no two of which are the same.
func replies() []api.Reply {
	return []api.Reply{
		{},
		{Code: api.RDone, Version: 2, Data: "ab"},
		{Code: api.RGone, Version: 2, Data: "ab"},
		{Code: api.RDone, Version: 3, Data: "ab"},
		{Code: api.RDone, Version: 2, Data: "aB"},
		{Code: api.RDone, Version: 2, Data: "ab\x00"},
		{Code: api.RDone, Version: 2},
		{Code: 2, Version: api.RDone},
		{Code: -api.RDone, Version: 2},
		{Code: math.MaxInt, Version: math.MinInt},
		{Code: api.RDone, Version: 2, Versions: []int{0}},
		{Code: api.RDone, Version: 2, Versions: []int{0, 0}},
		{Code: api.RDone, Version: 2, Versions: []int{1}},
		{Code: api.RDone, Version: 2, Versions: []int{1, 2}},
		{Code: api.RDone, Version: 2, Versions: []int{1, -2}},
		{Code: api.RDone, Version: 2, Versions: []int{2, 1}},
		{Code: api.RDone, Version: 2, Versions: []int{2, 2}},
		{Code: api.RDone, Version: 2, Versions: []int{1, 2, 3}},
		{Code: api.RDone, Version: 2, Versions: []int{1, -2, 3}},
		{Code: api.RDone, Version: 2, Versions: []int{1, 2, -3}},
		{Code: api.RDone, Version: 2, Versions: []int{1, 2, 3 + 1<<32}},
		{Code: api.RDone, Version: 2, Versions: []int{1, 2, 3}, Data: "ab"},
		{Versions: []int{1, 2, 3}},
		{Versions: []int{math.MinInt, math.MaxInt}},
		{Versions: []int{math.MaxInt, math.MinInt}},
	}
}

func TestSameReplyInAllParts(t *testing.T) {
	for i, a := range replies() {
		for j, b := range replies() {
			if got := req.SameReply(a, b); got != (i == j) {
				t.Errorf("SameReply of %v and %v: %v", a, b, got)
			}
		}
	}
}

func TestSameReplyAtEachVersion(t *testing.T) {
	long := make([]int, api.MaxQuota)
	for i := range long {
		long[i] = i + 1
	}
	whole := api.Reply{Code: api.RDone, Version: len(long), Versions: long}
	for i := range long {
		other := whole
		other.Versions = slices.Clone(long)
		if !req.SameReply(whole, other) {
			t.Fatalf("%v is not the same as its copy", whole)
		}
		other.Versions[i] = -other.Versions[i]
		if req.SameReply(whole, other) || req.SameReply(other, whole) {
			t.Errorf("%v is the same as %v", other, whole)
		}
		other.Versions = long[:i]
		if req.SameReply(whole, other) || req.SameReply(other, whole) {
			t.Errorf("%v is the same as %v", other, whole)
		}
	}
}

// A nil list and an empty one are the same (rule 5).
func TestSameReplyOfNoVersions(t *testing.T) {
	a := api.Reply{Code: api.RDone, Version: 1, Data: "a"}
	b := a
	b.Versions = []int{}
	c := a
	c.Versions = []int{1}[:0]
	for _, x := range []api.Reply{a, b, c} {
		for _, y := range []api.Reply{a, b, c} {
			if !req.SameReply(x, y) {
				t.Errorf("%#v is not the same as %#v", x, y)
			}
		}
	}
	c.Versions = []int{1}
	if req.SameReply(b, c) || req.SameReply(c, b) {
		t.Error("a list of one is the same as one of none")
	}
}

func TestSameReplyChangesNothing(t *testing.T) {
	a := api.Reply{Versions: []int{3, 1, -2}}
	b := api.Reply{Versions: []int{1, 3, -2}}
	if req.SameReply(a, b) {
		t.Error("the order of the versions is not asked for")
	}
	if !slices.Equal(a.Versions, []int{3, 1, -2}) || !slices.Equal(b.Versions, []int{1, 3, -2}) {
		t.Errorf("what was handed in has changed: %v, %v", a, b)
	}
}

// 3.1: Key

func TestKeyIsTheId(t *testing.T) {
	for id := range api.MaxId + 1 {
		for _, q := range with(kinds(), func(q *api.Req) { q.Id = id }) {
			if got := req.Key(q); got != id {
				t.Errorf("Key of %v: %d", q, got)
			}
		}
	}
}

func TestKeyOfWhatMayNotBe(t *testing.T) {
	for _, q := range never() {
		if got := req.Key(q); got != -1 {
			t.Errorf("Key of %v: %d", q, got)
		}
	}
}

// 3.1: Newer

func TestNewerIsAboveTheLast(t *testing.T) {
	for _, c := range []struct {
		seq, last int
		want      bool
	}{
		{5, 5, false},
		{5, 4, true},
		{5, 6, false},
		{1, 0, true},
		{1, 1, false},
		{1, -1, true},
		{1, math.MinInt, true},
		{1, math.MaxInt, false},
		{2, 1, true},
		{api.MaxSeq, api.MaxSeq - 1, true},
		{api.MaxSeq, api.MaxSeq, false},
		{api.MaxSeq, api.MaxSeq + 1, false},
		{api.MaxSeq, 0, true},
		{api.MaxSeq, math.MinInt, true},
		{api.MaxSeq, math.MaxInt, false},
		{5, 1 << 32, false},
		{5, -1 << 32, true},
	} {
		for _, q := range with(kinds(), func(q *api.Req) { q.Seq = c.seq }) {
			if got := req.Newer(q, c.last); got != c.want {
				t.Errorf("Newer of %v, last %d: %v", q, c.last, got)
			}
		}
	}
}

func TestNewerOfWhatMayNotBe(t *testing.T) {
	for _, q := range never() {
		for _, last := range []int{math.MinInt, -1, 0, 4, 5, api.MaxSeq, math.MaxInt} {
			if req.Newer(q, last) {
				t.Errorf("Newer of %v, last %d, though it may not be", q, last)
			}
		}
	}
}
