package chart_test

import (
	"fmt"
	"math"
	"slices"
	"testing"

	"casebook/api"
	"casebook/chart"
)

var (
	a    = api.Version{Data: "a"}
	b    = api.Version{Data: "b"}
	gone = api.Version{Gone: true}

	empty = []api.Version{} // not nil, and yet the same (rule 5)
)

// of answers a resource.
func of(l ...api.Version) []api.Version { return l }

// full answers so many versions, of which the last one is there.
func full(size int) []api.Version {
	l := make([]api.Version, size)
	for i := range l {
		l[i].Data = fmt.Sprint("v", i+1)
	}
	return l
}

// resources are ordinary ones and those at the edges.
func resources() [][]api.Version {
	return [][]api.Version{
		nil, {},
		of(a), of(gone),
		of(a, b), of(a, gone), of(gone, a), of(gone, gone),
		of(a, b, gone), of(a, gone, b), of(a, gone, gone, b, gone),
		of(api.Version{}), of(a, api.Version{}),
		of(api.Version{Gone: true, Data: "a tombstone has no data"}),
		full(api.MaxQuota - 1), full(api.MaxQuota), full(api.MaxQuota + 1),
		append(full(api.MaxQuota-1), gone), append(full(api.MaxQuota), gone),
	}
}

// numbers are ordinary ones, those about the edges, and far ones.
func numbers() []int {
	return []int{
		math.MinInt, math.MinInt + 1, -1 << 32, -2, -1, 0, 1, 2, 3, 4, 5, 6, 7,
		api.MaxQuota - 1, api.MaxQuota, api.MaxQuota + 1, 1 << 32, 1<<32 + 1, math.MaxInt,
	}
}

func writeKinds() []int { return []int{api.OpCreate, api.OpUpdate, api.OpDelete} }

func askKinds() []int { return []int{api.OpRead, api.OpVersion, api.OpHistory} }

// wrongKinds are of no request.
func wrongKinds() []int {
	return []int{math.MinInt, -api.OpCreate, -1, 0, api.OpHistory + 1, 1<<32 + api.OpCreate, 1<<32 + api.OpRead, math.MaxInt}
}

// requests are of all kinds and none, with each of the numbers as Match, with Data and without.
func requests() []api.Req {
	var l []api.Req
	for _, kind := range slices.Concat(writeKinds(), askKinds(), wrongKinds()) {
		for _, match := range numbers() {
			for _, data := range []string{"", "d"} {
				l = append(l, api.Req{Client: 1, Seq: 5, Kind: kind, Id: 3, Match: match, Data: data})
			}
		}
	}
	return l
}

func sameReply(x, y api.Reply) bool {
	return x.Code == y.Code && x.Version == y.Version && x.Data == y.Data && slices.Equal(x.Versions, y.Versions)
}

// wantDo fails unless Do answers just this.
func wantDo(t *testing.T, l []api.Version, q api.Req, quota int, want []api.Version, reply api.Reply) {
	t.Helper()
	got, told := chart.Do(l, q, quota)
	if !slices.Equal(got, want) || !sameReply(told, reply) {
		t.Errorf("Do(%v, %v, %d): %v, %v; not %v, %v", l, q, quota, got, told, want, reply)
	}
}

// wantAsk fails unless Ask answers just this.
func wantAsk(t *testing.T, l []api.Version, q api.Req, want api.Reply) {
	t.Helper()
	if got := chart.Ask(l, q); !sameReply(got, want) {
		t.Errorf("Ask(%v, %v): %v; not %v", l, q, got, want)
	}
}

// wantRefused fails unless Do tells just this and leaves the versions as they are.
func wantRefused(t *testing.T, l []api.Version, q api.Req, quota, code, version int) {
	t.Helper()
	wantDo(t, l, q, quota, l, api.Reply{Code: code, Version: version})
}

// 4.1: one more version

func TestDoAddsAVersion(t *testing.T) {
	for _, c := range []struct {
		l           []api.Version
		kind, match int
		data        string
		made        api.Version
	}{
		{nil, api.OpCreate, 0, "a", a},
		{empty, api.OpCreate, 0, "a", a},
		{nil, api.OpCreate, 0, "", api.Version{}},
		{of(gone), api.OpCreate, 0, "a", a},
		{of(gone), api.OpCreate, 1, "a", a},
		{of(a, gone), api.OpCreate, 0, "b", b},
		{of(a, gone), api.OpCreate, 2, "b", b},
		{of(a), api.OpUpdate, 0, "b", b},
		{of(a), api.OpUpdate, 1, "b", b},
		{of(a), api.OpUpdate, 1, "a", a},
		{of(a), api.OpUpdate, 1, "", api.Version{}},
		{of(gone, a), api.OpUpdate, 0, "\x00\xff", api.Version{Data: "\x00\xff"}},
		{of(a, b, a), api.OpUpdate, 3, "b", b},
		{of(a), api.OpDelete, 0, "", gone},
		{of(a), api.OpDelete, 1, "", gone},
		{of(a), api.OpDelete, 1, "a tombstone has no data", gone},
		{of(a, gone, b), api.OpDelete, 3, "", gone},
		{of(api.Version{}), api.OpDelete, 1, "", gone},
	} {
		q := api.Req{Client: 1, Seq: 5, Kind: c.kind, Id: 3, Match: c.match, Data: c.data}
		want := append(slices.Clone(c.l), c.made)
		for _, quota := range []int{len(want), len(want) + 1, api.MaxQuota, math.MaxInt} {
			wantDo(t, c.l, q, quota, want, api.Reply{Code: api.RDone, Version: len(want)})
		}
	}
}

// The numbers that Do looks at are those of the request's kind, its Match, its Data.
func TestDoAsksNotWhoAsks(t *testing.T) {
	for _, n := range numbers() {
		q := api.Req{Client: n, Seq: n, Kind: api.OpCreate, Id: n, Data: "a"}
		wantDo(t, nil, q, 1, of(a), api.Reply{Code: api.RDone, Version: 1})
	}
}

func TestExamplesOfTheDocument(t *testing.T) {
	var l []api.Version
	for i, c := range []struct {
		q     api.Req
		reply api.Reply
	}{
		{api.Req{Kind: api.OpCreate, Data: "a"}, api.Reply{Code: api.RDone, Version: 1}},
		{api.Req{Kind: api.OpUpdate, Match: 1, Data: "b"}, api.Reply{Code: api.RDone, Version: 2}},
		{api.Req{Kind: api.OpUpdate, Match: 1, Data: "b"}, api.Reply{Code: api.RMatch, Version: 2}},
		{api.Req{Kind: api.OpDelete}, api.Reply{Code: api.RDone, Version: 3}},
		{api.Req{Kind: api.OpRead}, api.Reply{Code: api.RGone, Version: 3}},
		{api.Req{Kind: api.OpCreate, Data: "a"}, api.Reply{Code: api.RDone, Version: 4}},
		{api.Req{Kind: api.OpHistory}, api.Reply{Code: api.RDone, Version: 4, Versions: []int{1, 2, -3, 4}}},
	} {
		var got api.Reply
		l, got = chart.Do(l, c.q, api.MaxQuota)
		if !sameReply(got, c.reply) {
			t.Errorf("step %d: %v; not %v", i, got, c.reply)
		}
	}
	if want := of(a, b, gone, a); !slices.Equal(l, want) {
		t.Errorf("in the end: %v; not %v", l, want)
	}
}

// 4.1: why not, each row of the table, whatever the rows behind it would tell

func TestDoCreateOfWhatIsThere(t *testing.T) {
	for _, l := range [][]api.Version{of(a), of(a, b), of(gone, a), of(a, gone, api.Version{}), full(api.MaxQuota)} {
		for _, match := range numbers() {
			for _, quota := range numbers() {
				q := api.Req{Kind: api.OpCreate, Match: match, Data: "d"}
				wantRefused(t, l, q, quota, api.RExists, len(l))
			}
		}
	}
}

func TestDoWithoutVersions(t *testing.T) {
	for _, kind := range []int{api.OpUpdate, api.OpDelete} {
		for _, match := range numbers() {
			for _, quota := range numbers() {
				wantRefused(t, nil, api.Req{Kind: kind, Match: match, Data: "d"}, quota, api.RNone, 0)
				wantRefused(t, empty, api.Req{Kind: kind, Match: match, Data: "d"}, quota, api.RNone, 0)
			}
		}
	}
}

func TestDoOfWhatIsGone(t *testing.T) {
	for _, l := range [][]api.Version{of(gone), of(a, gone), of(gone, gone), of(a, gone, b, gone)} {
		for _, kind := range []int{api.OpUpdate, api.OpDelete} {
			for _, match := range numbers() {
				for _, quota := range numbers() {
					wantRefused(t, l, api.Req{Kind: kind, Match: match, Data: "d"}, quota, api.RGone, len(l))
				}
			}
		}
	}
}

func TestDoIfAnotherIsTheLast(t *testing.T) {
	for _, c := range []struct {
		kind int
		l    []api.Version
	}{
		{api.OpUpdate, of(a)},
		{api.OpUpdate, of(a, gone, b)},
		{api.OpDelete, of(a)},
		{api.OpDelete, of(a, b)},
		{api.OpCreate, nil},
		{api.OpCreate, empty},
		{api.OpCreate, of(gone)},
		{api.OpCreate, of(a, gone)},
	} {
		for _, match := range numbers() {
			if match == 0 || match == len(c.l) {
				continue
			}
			for _, quota := range numbers() {
				q := api.Req{Kind: c.kind, Match: match, Data: "d"}
				wantRefused(t, c.l, q, quota, api.RMatch, len(c.l))
			}
		}
	}
}

func TestDoAtTheQuota(t *testing.T) {
	for _, c := range []struct {
		kind int
		l    []api.Version
	}{
		{api.OpUpdate, of(a)},
		{api.OpUpdate, of(a, gone, b)},
		{api.OpUpdate, full(api.MaxQuota)},
		{api.OpDelete, of(a, b)},
		{api.OpDelete, full(api.MaxQuota)},
		{api.OpCreate, nil},
		{api.OpCreate, of(gone)},
		{api.OpCreate, append(full(api.MaxQuota-1), gone)},
	} {
		for _, match := range []int{0, len(c.l)} {
			for _, quota := range append(numbers(), len(c.l)) {
				if quota > len(c.l) {
					continue
				}
				q := api.Req{Kind: c.kind, Match: match, Data: "d"}
				wantRefused(t, c.l, q, quota, api.RQuota, len(c.l))
			}
		}
	}
}

// 4.1: other requests

func TestDoOfOtherRequests(t *testing.T) {
	for _, l := range resources() {
		for _, q := range requests() {
			if slices.Contains(writeKinds(), q.Kind) {
				continue
			}
			for _, quota := range []int{math.MinInt, 0, 1, math.MaxInt} {
				wantDo(t, l, q, quota, l, chart.Ask(l, q))
			}
		}
	}
}

// 4.2: Ask

func TestAskRead(t *testing.T) {
	for _, match := range numbers() {
		q := api.Req{Kind: api.OpRead, Match: match, Data: "d"}
		wantAsk(t, nil, q, api.Reply{Code: api.RNone})
		wantAsk(t, empty, q, api.Reply{Code: api.RNone})
		wantAsk(t, of(a), q, api.Reply{Code: api.RDone, Version: 1, Data: "a"})
		wantAsk(t, of(api.Version{}), q, api.Reply{Code: api.RDone, Version: 1})
		wantAsk(t, of(a, b), q, api.Reply{Code: api.RDone, Version: 2, Data: "b"})
		wantAsk(t, of(gone), q, api.Reply{Code: api.RGone, Version: 1})
		wantAsk(t, of(a, gone), q, api.Reply{Code: api.RGone, Version: 2})
		wantAsk(t, of(a, api.Version{Gone: true, Data: "x"}), q, api.Reply{Code: api.RGone, Version: 2})
		wantAsk(t, of(a, gone, b), q, api.Reply{Code: api.RDone, Version: 3, Data: "b"})
	}
}

func TestAskVersion(t *testing.T) {
	l := of(a, gone, b, api.Version{}, api.Version{Gone: true, Data: "x"})
	replies := []api.Reply{
		{Code: api.RDone, Version: 1, Data: "a"},
		{Code: api.RGone, Version: 2},
		{Code: api.RDone, Version: 3, Data: "b"},
		{Code: api.RDone, Version: 4},
		{Code: api.RGone, Version: 5},
	}
	for size := range len(l) + 1 {
		for _, match := range numbers() {
			want := api.Reply{Code: api.RNone}
			if match >= 1 && match <= size {
				want = replies[match-1]
			}
			wantAsk(t, l[:size], api.Req{Kind: api.OpVersion, Match: match, Data: "d"}, want)
		}
	}
}

func TestAskVersionOfMany(t *testing.T) {
	l := full(api.MaxQuota)
	for i, v := range l {
		want := api.Reply{Code: api.RDone, Version: i + 1, Data: v.Data}
		wantAsk(t, l, api.Req{Kind: api.OpVersion, Match: i + 1}, want)
	}
}

func TestAskHistory(t *testing.T) {
	for _, match := range numbers() {
		q := api.Req{Kind: api.OpHistory, Match: match, Data: "d"}
		wantAsk(t, nil, q, api.Reply{Code: api.RNone})
		wantAsk(t, empty, q, api.Reply{Code: api.RNone})
		wantAsk(t, of(a), q, api.Reply{Code: api.RDone, Version: 1, Versions: []int{1}})
		wantAsk(t, of(gone), q, api.Reply{Code: api.RDone, Version: 1, Versions: []int{-1}})
		wantAsk(t, of(a, b), q, api.Reply{Code: api.RDone, Version: 2, Versions: []int{1, 2}})
		wantAsk(t, of(a, gone), q, api.Reply{Code: api.RDone, Version: 2, Versions: []int{1, -2}})
		wantAsk(t, of(gone, a), q, api.Reply{Code: api.RDone, Version: 2, Versions: []int{-1, 2}})
		wantAsk(t, of(a, gone, gone, api.Version{}, gone), q, api.Reply{Code: api.RDone, Version: 5, Versions: []int{1, -2, -3, 4, -5}})
	}
	var all []int
	for i := range api.MaxQuota {
		all = append(all, i+1)
	}
	wantAsk(t, full(api.MaxQuota), api.Req{Kind: api.OpHistory}, api.Reply{Code: api.RDone, Version: api.MaxQuota, Versions: all})
}

func TestAskOfOtherRequests(t *testing.T) {
	for _, l := range resources() {
		for _, q := range requests() {
			if !slices.Contains(askKinds(), q.Kind) {
				wantAsk(t, l, q, api.Reply{})
			}
		}
	}
}

// 4.2: what was handed in is as before, and what is answered is the caller's own

// roomy answers the same versions in a longer array, and the whole of it.
func roomy(l []api.Version) (_, whole []api.Version) {
	whole = append(slices.Clone(l), of(a, b, a, b)...)
	return whole[:len(l)], whole
}

func TestWhatWasHandedInIsAsBefore(t *testing.T) {
	for _, l := range resources() {
		for _, q := range requests() {
			for _, quota := range []int{0, len(l), len(l) + 1, math.MaxInt} {
				given, whole := roomy(l)
				before := slices.Clone(whole)
				got, _ := chart.Do(given, q, quota)
				chart.Ask(given, q)
				if !slices.Equal(whole, before) {
					t.Fatalf("%v of %v: handed in %v, and then it was %v", q, l, before, whole)
				}
				for i := range got {
					got[i].Data += "changed"
				}
				if _ = append(got, gone); !slices.Equal(whole, before) {
					t.Fatalf("%v of %v: what is answered is what was handed in", q, l)
				}
			}
		}
	}
}

func TestAskAnswersANewListEachTime(t *testing.T) {
	l := of(a, gone, b)
	q := api.Req{Kind: api.OpHistory}
	first := chart.Ask(l, q)
	first.Versions[0] = 9
	wantAsk(t, l, q, api.Reply{Code: api.RDone, Version: 3, Versions: []int{1, -2, 3}})
	_, first = chart.Do(l, q, 0)
	first.Versions[0] = 9
	wantDo(t, l, q, 0, l, api.Reply{Code: api.RDone, Version: 3, Versions: []int{1, -2, 3}})
}

// 4.3: versions grow by one, and stay

func TestVersionsGrowByOneAndStay(t *testing.T) {
	for _, l := range resources() {
		for _, q := range requests() {
			for _, quota := range numbers() {
				wantGrowth(t, l, q, quota)
			}
		}
	}
}

// wantGrowth fails unless what was there stays, and one more is there just if that is told.
func wantGrowth(t *testing.T, l []api.Version, q api.Req, quota int) {
	t.Helper()
	got, told := chart.Do(l, q, quota)
	size := len(l)
	if slices.Contains(writeKinds(), q.Kind) && told.Code == api.RDone {
		size++
		if told.Version != size || size > quota {
			t.Errorf("Do(%v, %v, %d): the new version is told as %d", l, q, quota, told.Version)
		}
	}
	if len(got) != size || !slices.Equal(got[:len(l)], l) {
		t.Errorf("Do(%v, %v, %d): %v, %v", l, q, quota, got, told)
	}
}

// Whatever is asked, one behind the other, numbers are 1, 2, 3 and so on up to the quota, and each version is read behind all others as it was made.
func TestVersionsOfLongLives(t *testing.T) {
	const quota = 4
	requests := []api.Req{
		{Kind: api.OpCreate, Data: "c"},
		{Kind: api.OpUpdate, Data: "u"},
		{Kind: api.OpUpdate, Match: 2, Data: "m"},
		{Kind: api.OpDelete},
		{Kind: api.OpRead},
	}
	var live func(l []api.Version, made []api.Reply, left int)
	live = func(l []api.Version, made []api.Reply, left int) {
		for i, want := range made {
			wantAsk(t, l, api.Req{Kind: api.OpVersion, Match: i + 1}, want)
		}
		if len(l) != len(made) || len(l) > quota {
			t.Errorf("%d versions, %d made, the quota is %d", len(l), len(made), quota)
		}
		if left == 0 {
			return
		}
		for _, q := range requests {
			next, told := chart.Do(l, q, quota)
			grown := made
			if q.Kind != api.OpRead && told.Code == api.RDone {
				grown = append(slices.Clone(made), asMade(q, len(made)+1))
			}
			live(next, grown, left-1)
		}
	}
	live(nil, nil, 6)
}

// asMade answers what is told of a version, asked for by its number, that a request made.
func asMade(q api.Req, number int) api.Reply {
	if q.Kind == api.OpDelete {
		return api.Reply{Code: api.RGone, Version: number}
	}
	return api.Reply{Code: api.RDone, Version: number, Data: q.Data}
}

func TestUpToTheGreatestQuota(t *testing.T) {
	l, _ := chart.Do(nil, api.Req{Kind: api.OpCreate}, api.MaxQuota)
	for number := 2; number <= api.MaxQuota; number++ {
		var told api.Reply
		l, told = chart.Do(l, api.Req{Kind: api.OpUpdate, Match: number - 1, Data: "d"}, api.MaxQuota)
		if told.Code != api.RDone || told.Version != number || len(l) != number {
			t.Fatalf("version %d: %v, and %d are there", number, told, len(l))
		}
	}
	wantRefused(t, l, api.Req{Kind: api.OpDelete}, api.MaxQuota, api.RQuota, api.MaxQuota)
}

func TestTheSameIsAnsweredAgain(t *testing.T) {
	for _, l := range resources() {
		for _, q := range requests() {
			want, reply := chart.Do(l, q, len(l)+1)
			wantDo(t, l, q, len(l)+1, want, reply)
			wantAsk(t, l, q, chart.Ask(l, q))
		}
	}
}
