package check_test

import (
	"fmt"
	"math"
	"slices"
	"strings"
	"testing"

	"casebook/api"
	"casebook/check"
	"casebook/store"
)

func create(client, seq, id int, data string) api.Req {
	return api.Req{Client: client, Seq: seq, Kind: api.OpCreate, Id: id, Data: data}
}

func update(client, seq, id, match int, data string) api.Req {
	return api.Req{Client: client, Seq: seq, Kind: api.OpUpdate, Id: id, Match: match, Data: data}
}

func remove(client, seq, id, match int) api.Req {
	return api.Req{Client: client, Seq: seq, Kind: api.OpDelete, Id: id, Match: match}
}

func read(client, seq, id int) api.Req {
	return api.Req{Client: client, Seq: seq, Kind: api.OpRead, Id: id}
}

func version(client, seq, id, match int) api.Req {
	return api.Req{Client: client, Seq: seq, Kind: api.OpVersion, Id: id, Match: match}
}

func history(client, seq, id int) api.Req {
	return api.Req{Client: client, Seq: seq, Kind: api.OpHistory, Id: id}
}

// kinds answers a request of each kind, of a client, with a Seq; those that write come first.
func kinds(client, seq int) []api.Req {
	return []api.Req{
		create(client, seq, 3, "a"), update(client, seq, 3, 1, "b"), remove(client, seq, 3, 0),
		read(client, seq, 3), version(client, seq, 3, 1), history(client, seq, 3),
	}
}

func asks(q api.Req) api.Act { return api.Act{Client: q.Client, Seq: q.Seq, Req: q} }

func told(q api.Req, r api.Reply, at int) api.Act {
	return api.Act{Client: q.Client, Seq: q.Seq, Answer: true, Req: q, Reply: r, At: at}
}

// both answers that a request was asked, and told at once.
func both(q api.Req, r api.Reply, at int) []api.Act { return []api.Act{asks(q), told(q, r, at)} }

func done(version int) api.Reply { return api.Reply{Code: api.RDone, Version: version} }

func shows(version int, data string) api.Reply {
	return api.Reply{Code: api.RDone, Version: version, Data: data}
}

// noQuotas may not be.
func noQuotas() []int {
	return []int{math.MinInt, -1 << 32, -2, -1, 0, api.MaxQuota + 1, api.MaxQuota + 2, 1 << 32, 1<<32 + 1, math.MaxInt}
}

// noActs are lists of acts that may not be.
func noActs() [][]api.Act {
	q, r := create(1, 7, 3, "a"), read(1, 7, 3)
	early := asks(q)
	early.At = 1
	strange := told(q, done(1), 1)
	strange.Req.Data = "b"
	var l [][]api.Act
	for _, a := range []api.Act{{}, early, told(q, done(1), 1), told(r, done(1), 0), asks(create(4, 7, 3, "a")), asks(create(-1, 7, 3, "a")), asks(read(1, 0, 3)), asks(read(1, 7, 32))} {
		l = append(l, []api.Act{a}, append(both(create(0, 1, 3, "a"), done(1), 1), a), append([]api.Act{a}, both(create(0, 1, 3, "a"), done(1), 1)...))
	}
	return append(l,
		[]api.Act{asks(q), asks(q)}, []api.Act{asks(q), strange}, []api.Act{asks(q), told(q, done(1), -1)}, []api.Act{asks(q), told(q, done(1), api.MaxSeq+1)},
		append(both(q, done(1), 1), asks(q)), append(both(q, done(1), 1), told(q, done(1), 1)), append(both(q, done(1), 1), asks(read(1, 6, 3))),
		[]api.Act{asks(q), told(create(1, 8, 3, "a"), done(1), 1)}, []api.Act{asks(q), told(create(2, 7, 3, "a"), done(1), 1)},
	)
}

// noLogs are requests that may not all be Put.
func noLogs() [][]api.Req {
	first := create(0, 1, 3, "a")
	var l [][]api.Req
	for _, q := range []api.Req{{}, read(1, 1, 3), version(1, 1, 3, 1), history(1, 1, 3), create(4, 1, 3, "a"), create(1, 0, 3, "a"), create(1, 1, -1, "a"), create(1, 1, 32, "a"), create(1, 1, 3, strings.Repeat("d", 65)), first} {
		if q != first {
			l = append(l, []api.Req{q})
		}
		l = append(l, []api.Req{first, q}, []api.Req{first, create(1, 1, 4, "b"), q, create(2, 1, 5, "c")})
	}
	return append(l, []api.Req{create(0, 2, 3, "a"), create(0, 1, 3, "a")}, []api.Req{create(0, 2, 3, "a"), create(1, 1, 3, "a"), remove(0, 1, 3, 0)})
}

// wantPlaces fails unless acts have these places.
func wantPlaces(t *testing.T, acts []api.Act, want ...int) {
	t.Helper()
	if got := check.Places(acts); !slices.Equal(got, want) {
		t.Errorf("Places(%v): %v; not %v", acts, got, want)
	}
}

// wantCheck fails unless Check answers this with reads, and this without; and Writes as Check without.
func wantCheck(t *testing.T, acts []api.Act, log []api.Req, quota, with, without int) {
	t.Helper()
	if got := check.Check(acts, log, quota, true); got != with {
		t.Errorf("Check(%v, %v, %d), with reads: %d; not %d", acts, log, quota, got, with)
	}
	if got := check.Check(acts, log, quota, false); got != without {
		t.Errorf("Check(%v, %v, %d), without reads: %d; not %d", acts, log, quota, got, without)
	}
	if got := check.Writes(acts, log, quota); got != without {
		t.Errorf("Writes(%v, %v, %d): %d; not %d", acts, log, quota, got, without)
	}
}

// 23.1: Places

func TestPlacesOfNothing(t *testing.T) {
	wantPlaces(t, nil)
	wantPlaces(t, []api.Act{})
}

// What is asked stands behind all that was answered: it has the greatest place of all that.
func TestPlacesOfAsks(t *testing.T) {
	for _, at := range []int{0, 1, 7, 1000, api.MaxSeq - 1, api.MaxSeq} {
		for _, q := range kinds(0, 1) {
			for _, other := range kinds(1, 1) {
				wantPlaces(t, append(both(q, api.Reply{}, at), asks(other)), 0, at, at)
				wantPlaces(t, []api.Act{asks(q), asks(other), told(q, api.Reply{}, at)}, 0, 0, at)
			}
		}
	}
}

// It is the greatest one, not the last one, of whoever was told it.
func TestPlacesOfAsksBehindMany(t *testing.T) {
	one, two, three := create(0, 1, 3, "a"), create(1, 1, 4, "b"), read(2, 1, 3)
	wantPlaces(t, []api.Act{
		asks(one), asks(two), asks(three),
		told(one, api.Reply{}, 5), asks(read(0, 2, 3)),
		told(two, api.Reply{}, 2), asks(create(1, 2, 3, "c")),
		told(three, api.Reply{}, 9), asks(remove(2, 2, 3, 0)),
	}, 0, 0, 0, 5, 5, 2, 5, 9, 9)
}

// What writes has the place that is told, even if that is ahead of its asking.
func TestPlacesOfWrites(t *testing.T) {
	for _, q := range kinds(1, 1)[:3] {
		for _, at := range []int{0, 1, 6, 7, 8, api.MaxSeq} {
			wantPlaces(t, append(both(create(0, 1, 3, "a"), done(1), 7), both(q, api.Reply{}, at)...), 0, 7, 7, at)
		}
	}
}

// What reads stands no sooner than it was asked.
func TestPlacesOfReads(t *testing.T) {
	for _, q := range kinds(1, 1)[3:] {
		for at, want := range map[int]int{0: 7, 1: 7, 6: 7, 7: 7, 8: 8, 1000: 1000, api.MaxSeq: api.MaxSeq} {
			wantPlaces(t, append(both(create(0, 1, 3, "a"), done(1), 7), both(q, api.Reply{}, at)...), 0, 7, 7, want)
		}
	}
}

// Its own asking counts: not what was answered, or asked, behind it.
func TestPlacesOfReadsByTheirOwnAsking(t *testing.T) {
	one, two, three := read(1, 1, 3), create(0, 1, 3, "a"), read(2, 1, 3)
	acts := []api.Act{asks(one), asks(two), told(two, done(1), 7), asks(three), told(one, api.Reply{}, 2), told(three, api.Reply{}, 2)}
	wantPlaces(t, acts, 0, 0, 7, 7, 2, 7)
	acts = append(acts, both(create(0, 2, 3, "b"), done(1), 11)...)
	wantPlaces(t, append(acts, both(read(1, 2, 3), api.Reply{}, 3)...), 0, 0, 7, 7, 2, 7, 7, 11, 11, 11)
}

func TestPlacesOfWhatMayNotBe(t *testing.T) {
	for _, acts := range noActs() {
		if got := check.Places(acts); len(got) > 0 {
			t.Errorf("Places(%v): %v", acts, got)
		}
	}
}

// 23.2: Check, of what may not be

func TestCheckOfWhatMayNotBe(t *testing.T) {
	right := both(create(0, 1, 3, "a"), done(1), 1)
	wrong := both(create(0, 1, 3, "a"), done(2), 1)
	log := []api.Req{create(0, 1, 3, "a")}
	for _, acts := range [][]api.Act{nil, right, wrong} {
		for _, quota := range noQuotas() {
			wantCheck(t, acts, log, quota, api.ErrArg, api.ErrArg)
			wantCheck(t, acts, nil, quota, api.ErrArg, api.ErrArg)
		}
		for _, other := range noLogs() {
			wantCheck(t, acts, other, 5, api.ErrArg, api.ErrArg)
		}
	}
	for _, acts := range noActs() {
		wantCheck(t, acts, log, 5, api.ErrArg, api.ErrArg)
		wantCheck(t, acts, nil, 5, api.ErrArg, api.ErrArg)
	}
}

// Requests that nobody asked may stand in the log, and who was not answered need not.
func TestCheckOfNothing(t *testing.T) {
	for _, log := range [][]api.Req{nil, {}, {create(0, 1, 3, "a")}, {create(0, 1, 3, "a"), create(0, 2, 3, "a"), remove(3, 1, 31, 100)}} {
		for _, quota := range []int{1, 2, 99, api.MaxQuota} {
			wantCheck(t, nil, log, quota, 0, 0)
			wantCheck(t, []api.Act{}, log, quota, 0, 0)
			for _, q := range kinds(1, 7) {
				wantCheck(t, []api.Act{asks(q)}, log, quota, 0, 0)
			}
		}
	}
}

// 23.2: Check, of what writes

// chosen is a log, and what each of its requests is told.
func chosen() ([]api.Req, []api.Reply) {
	return []api.Req{
		create(0, 1, 3, "a"), update(1, 1, 3, 1, "b"), update(0, 2, 3, 1, "c"), remove(2, 5, 3, 0), update(1, 2, 3, 0, "d"), remove(3, 1, 4, 0), create(0, 9, 3, "e"), create(2, 6, 3, "f"),
	}, []api.Reply{
		done(1), done(2), {Code: api.RMatch, Version: 2}, done(3), {Code: api.RGone, Version: 3}, {Code: api.RNone}, done(4), {Code: api.RExists, Version: 4},
	}
}

// inOrder answers the acts of who asked all of a log, one behind the other, and was told at once.
func inOrder(log []api.Req, replies []api.Reply) []api.Act {
	var acts []api.Act
	for k, q := range log {
		acts = append(acts, both(q, replies[k], k+1)...)
	}
	return acts
}

func TestCheckOfWritesInTheirOrder(t *testing.T) {
	log, replies := chosen()
	for n := range len(log) + 1 {
		acts := inOrder(log[:n], replies[:n])
		wantCheck(t, acts, log[:n], 5, 0, 0)
		wantCheck(t, acts, log, 5, 0, 0)
		if n > 0 {
			wantCheck(t, acts, log[:n-1], 5, -n, -n) // it stands nowhere
			wantCheck(t, acts[:2*n-1], log[:n-1], 5, 0, 0)
		}
	}
}

// Each one is known by its own place, request and reply: with another one it is wrong, and it is the first that is.
func TestCheckOfWrongWrites(t *testing.T) {
	log, replies := chosen()
	for k, q := range log {
		wrong := func(change func(asked, told *api.Act)) {
			t.Helper()
			acts := inOrder(log, replies)
			change(&acts[2*k], &acts[2*k+1])
			wantCheck(t, acts, log, 5, -k-1, -k-1)
		}
		for at := range len(log) + 3 {
			if at != k+1 {
				wrong(func(_, told *api.Act) { told.At = at })
			}
		}
		wrong(func(_, told *api.Act) { told.At = api.MaxSeq })
		for _, other := range []api.Reply{
			{}, {Code: replies[k].Code + 1, Version: replies[k].Version}, {Code: replies[k].Code, Version: replies[k].Version + 1},
			{Code: replies[k].Code, Version: replies[k].Version, Data: "a"}, {Code: replies[k].Code, Version: replies[k].Version, Versions: []int{1}},
		} {
			wrong(func(_, told *api.Act) { told.Reply = other })
		}
		for _, change := range []func(q *api.Req){
			func(q *api.Req) {
				q.Kind = api.OpUpdate + api.OpDelete - max(q.Kind, api.OpUpdate)
				q.Match, q.Data = 0, ""
			},
			func(q *api.Req) { q.Id++ },
			func(q *api.Req) { q.Kind, q.Match, q.Data = api.OpUpdate, 7, "z" },
		} {
			wrong(func(asked, told *api.Act) { change(&asked.Req); told.Req = asked.Req })
		}
		if q.Kind < api.OpDelete {
			wrong(func(asked, told *api.Act) { asked.Req.Data += "x"; told.Req = asked.Req })
		}
	}
}

// No parts at all are the same as an empty list of them.
func TestCheckOfEmptyVersions(t *testing.T) {
	acts := both(create(0, 1, 3, "a"), api.Reply{Code: api.RDone, Version: 1, Versions: []int{}}, 1)
	acts = append(acts, both(read(0, 2, 3), api.Reply{Code: api.RDone, Version: 1, Data: "a", Versions: []int{}}, 1)...)
	wantCheck(t, acts, []api.Req{create(0, 1, 3, "a")}, 5, 0, 0)
}

// Of who is at the place it must be the same client, and the same number.
func TestCheckOfAnotherOnesWrite(t *testing.T) {
	log := []api.Req{create(0, 1, 3, "a"), create(1, 1, 4, "a"), create(1, 2, 5, "a")}
	for _, q := range []api.Req{create(0, 1, 3, "a"), create(2, 1, 3, "a"), create(0, 2, 3, "a"), create(1, 1, 4, "a"), create(1, 2, 5, "a")} {
		for at := range 5 {
			want := -1
			if at > 0 && at <= len(log) && log[at-1] == q {
				want = 0
			}
			wantCheck(t, both(q, done(1), at), log, 5, want, want)
		}
	}
}

// What was asked stands behind all that was answered ahead of it.
func TestCheckOfWritesAheadOfTheirAsking(t *testing.T) {
	log := []api.Req{create(0, 1, 3, "a"), create(1, 1, 4, "b")}
	first, second := both(log[0], done(1), 1), both(log[1], done(1), 2)
	wantCheck(t, slices.Concat(first, second), log, 5, 0, 0)
	wantCheck(t, slices.Concat(second, first), log, 5, -2, -2)
	wantCheck(t, []api.Act{first[0], second[0], second[1], first[1]}, log, 5, 0, 0)
	wantCheck(t, []api.Act{second[0], first[0], second[1], first[1]}, log, 5, 0, 0)
	wantCheck(t, []api.Act{second[0], second[1], first[0]}, log, 5, 0, 0)

	// also ahead of what reads were told, wherever those stand: just there, or behind it
	for at, want := range map[int]int{0: 0, 1: -2, 2: -2} {
		acts := slices.Concat(both(read(2, 1, 5), api.Reply{Code: api.RNone}, at), first)
		wantCheck(t, acts, log, 5, want, want)
		acts = []api.Act{acts[0], acts[2], acts[1], acts[3]}
		wantCheck(t, acts, log, 5, 0, 0)
	}
}

// The document's example: two are told one place.
func TestCheckOfTwoAtOnePlace(t *testing.T) {
	one, two := create(0, 1, 3, "a"), create(1, 1, 4, "b")
	for _, log := range [][]api.Req{{one}, {two}, {one, two}, {two, one}, {one, two, create(0, 2, 5, "c")}} {
		for at := range 4 {
			acts := []api.Act{asks(one), asks(two), told(one, done(1), at), told(two, done(1), at)}
			if check.Check(acts, log, 5, true) >= 0 || check.Writes(acts, log, 5) >= 0 {
				t.Errorf("both are told %d of %v", at, log)
			}
		}
	}
}

// A store of this quota tells.
func TestCheckByQuota(t *testing.T) {
	for _, quota := range []int{1, 2, 3, 50, api.MaxQuota} {
		var log []api.Req
		var acts []api.Act
		for k := range quota {
			q := update(0, k+2, 3, 0, "b")
			if k == 0 {
				q = create(0, 1, 3, "a")
			}
			log, acts = append(log, q), append(acts, both(q, done(k+1), k+1)...)
		}
		q := update(0, quota+2, 3, 0, "b")
		log = append(log, q)
		full := append(slices.Clone(acts), both(q, api.Reply{Code: api.RQuota, Version: quota}, quota+1)...)
		more := append(slices.Clone(acts), both(q, done(quota+1), quota+1)...)
		last := quota + 1
		wantCheck(t, full, log, quota, 0, 0)
		wantCheck(t, more, log, quota, -last, -last)
		if quota < api.MaxQuota {
			wantCheck(t, full, log, quota+1, -last, -last)
			wantCheck(t, more, log, quota+1, 0, 0)
		}
		if quota > 1 {
			wantCheck(t, full, log, quota-1, 1-last, 1-last)
		}
	}
}

// 23.2: Check, of what reads

// At each place it is told what stands there, and nothing else.
func TestCheckOfReads(t *testing.T) {
	log, _ := chosen()
	for _, q := range []api.Req{read(3, 7, 3), read(3, 7, 4), version(3, 7, 3, 1), version(3, 7, 3, 2), version(3, 7, 3, 4), history(3, 7, 3), history(3, 7, 9)} {
		for n := range len(log) + 1 {
			for at := range len(log) + 2 {
				s := made(log[:n], 5)
				reply, _ := s.Ask(q)
				want := 0
				if at > len(log) {
					want = -1
				} else if there, _ := made(log[:at], 5).Ask(q); !sameReply(there, reply) {
					want = -1
				}
				wantCheck(t, both(q, reply, at), log, 5, want, 0)
			}
		}
	}
}

// Each part of what is told counts.
func TestCheckOfWrongReads(t *testing.T) {
	log := []api.Req{create(0, 1, 3, "a"), update(0, 2, 3, 0, "b")}
	right := map[api.Req]api.Reply{
		read(1, 1, 3): shows(2, "b"), version(1, 1, 3, 1): shows(1, "a"), history(1, 1, 3): {Code: api.RDone, Version: 2, Versions: []int{1, 2}},
	}
	for q, r := range right {
		wantCheck(t, both(q, r, 2), log, 5, 0, 0)
		code, other, data, fewer, more := r, r, r, r, r
		code.Code++
		other.Version++
		data.Data += "x"
		fewer.Versions = []int{2}
		more.Versions = append(slices.Clone(r.Versions), 3)
		for _, wrong := range []api.Reply{{}, code, other, data, fewer, more} {
			wantCheck(t, both(q, wrong, 2), log, 5, -1, 0)
		}
		wantCheck(t, both(q, r, 3), log, 5, -1, 0)
		wantCheck(t, both(q, r, api.MaxSeq), log, 5, -1, 0)
	}
}

// A read that was asked behind an answer stands behind it, whatever place it is told; one that was asked ahead of it need not.
func TestCheckOfReadsByTheirAsking(t *testing.T) {
	log := []api.Req{create(0, 1, 3, "a"), update(0, 2, 3, 0, "b")}
	acts := inOrder(log, []api.Reply{done(1), done(2)})
	for at := range 3 {
		wantCheck(t, append(slices.Clone(acts), both(read(1, 1, 3), shows(2, "b"), at)...), log, 5, 0, 0)
		wantCheck(t, append(slices.Clone(acts), both(read(1, 1, 3), shows(1, "a"), at)...), log, 5, -3, 0)
		sooner := slices.Concat(acts[:2], []api.Act{asks(read(1, 1, 3))}, acts[2:])
		want := map[int]int{0: 0, 1: 0, 2: -3}[at]
		wantCheck(t, append(slices.Clone(sooner), told(read(1, 1, 3), shows(1, "a"), at)), log, 5, want, 0)
		wantCheck(t, append(slices.Clone(sooner), told(read(1, 1, 3), shows(2, "b"), at)), log, 5, -3-want, 0)
	}
}

// Who was told something by a read is not told something older by the next one, of whoever.
func TestCheckOfReadsBehindReads(t *testing.T) {
	log := []api.Req{create(0, 1, 3, "a"), update(0, 2, 3, 0, "b")}
	newer, older := both(read(1, 1, 3), shows(2, "b"), 2), both(read(2, 1, 3), shows(1, "a"), 1)
	wantCheck(t, slices.Concat(older, newer), log, 5, 0, 0)
	wantCheck(t, slices.Concat(newer, older), log, 5, -2, 0)
	wantCheck(t, []api.Act{newer[0], older[0], newer[1], older[1]}, log, 5, 0, 0)
}

// 23.2: the number of the first one

// It is the first by acts, not by places; what is asked does not count.
func TestCheckTellsTheFirstByActs(t *testing.T) {
	log, replies := chosen()
	for one := range log {
		for two := range log {
			if log[one].Client == log[two].Client {
				continue
			}
			acts := []api.Act{asks(log[one]), asks(log[two]), told(log[one], replies[one], one+1), told(log[two], replies[two], two+1)}
			wantCheck(t, acts, log, 5, 0, 0)
			for _, wrong := range [][]int{{2}, {3}, {2, 3}} {
				l := slices.Clone(acts)
				for _, k := range wrong {
					l[k].Reply.Code = 99
				}
				wantCheck(t, l, log, 5, 1-wrong[0], 1-wrong[0])
			}
		}
	}
}

// An answer's number is its own: how many answers there are up to it, however many acts.
func TestCheckTellsTheAnswersOwnNumber(t *testing.T) {
	a, b, r := create(0, 1, 1, "a"), update(1, 1, 1, 0, "b"), read(2, 1, 1)
	log := []api.Req{a, b}
	first := both(a, done(1), 1)
	between := slices.Concat(first, []api.Act{asks(r)}, both(b, done(2), 2))
	wantCheck(t, append(slices.Clone(between), told(r, shows(1, "a"), 0)), log, 5, 0, 0)
	wantCheck(t, append(slices.Clone(between), told(r, shows(1, "a"), 2)), log, 5, -3, 0)
	wantCheck(t, slices.Concat(first, both(b, done(1), 2)), log, 5, -2, -2)
	wantCheck(t, both(a, done(2), 1), log, 5, -1, -1)
}

// Whoever else asks, at whatever moment, and waits: that has no number.
func TestWhatWaitsHasNoNumber(t *testing.T) {
	var log []api.Req
	var acts []api.Act
	for k := range 6 {
		log = append(log, update(0, k+1, 3, 0, "b"))
		acts = append(acts, both(log[k], api.Reply{Code: api.RNone}, k+1)...)
	}
	for wrong := range log {
		l := slices.Clone(acts)
		l[2*wrong+1].Reply.Code = 99
		for one := range len(l) + 1 {
			more := slices.Insert(slices.Clone(l), one, asks(create(1, 7, 4, "c")))
			wantCheck(t, more, log, 5, -wrong-1, -wrong-1)
			for two := range len(more) + 1 {
				wantCheck(t, slices.Insert(slices.Clone(more), two, asks(read(2, 7, 3))), log, 5, -wrong-1, -wrong-1)
			}
		}
	}
}

// Of answers in any order to what four clients asked at first, in any order, each one is known by when it was told.
func TestNumbersGoByTheOrderOfAnswers(t *testing.T) {
	log := []api.Req{create(0, 1, 3, "a"), create(1, 1, 4, "b"), create(2, 1, 5, "c"), create(3, 1, 6, "d")}
	for order := range 4 * 4 * 4 * 4 {
		var turns []int
		for left := order; len(turns) < 4 && !slices.Contains(turns, left%4); left /= 4 {
			turns = append(turns, left%4)
		}
		if len(turns) < 4 {
			continue
		}
		for wrong := range 4 {
			var acts []api.Act
			for _, client := range turns {
				acts = slices.Insert(acts, 0, asks(log[client]))
				acts = append(acts, told(log[client], done(1), client+1))
			}
			acts[4+wrong].Reply.Version = 2
			wantCheck(t, acts, log, 5, -wrong-1, -wrong-1)
		}
	}
}

// Of what reads and what writes both, in either order; without reads the one that writes is the first, by the same number.
func TestCheckTellsTheFirstOfBoth(t *testing.T) {
	log := []api.Req{create(0, 1, 3, "a")}
	wrong, stale := both(log[0], done(2), 1), both(read(1, 1, 3), shows(7, "z"), 1)
	wantCheck(t, slices.Concat(stale, wrong), log, 5, -1, -2)
	wantCheck(t, slices.Concat(wrong, stale), log, 5, -1, -1)
	wantCheck(t, []api.Act{wrong[0], stale[0], stale[1], wrong[1]}, log, 5, -1, -2)
	wantCheck(t, []api.Act{wrong[0], stale[0], wrong[1], stale[1]}, log, 5, -1, -1)
}

// 23.2: without reads

// Their places count for what is asked behind them, also if they are not looked at.
func TestWritesBehindReads(t *testing.T) {
	log := []api.Req{create(0, 1, 3, "a"), create(0, 2, 4, "b")}
	acts := slices.Concat(both(read(1, 1, 31), api.Reply{Code: api.RNone}, 1), both(log[0], done(1), 1))
	wantCheck(t, acts, log, 5, -2, -2)
	acts[1].At = 0
	wantCheck(t, acts, log, 5, 0, 0)
	acts[1].At = 9 // there is no such place, but this is only seen with reads
	wantCheck(t, acts, log, 5, -1, -2)
}

// What is handed in.

func TestWhatIsHandedInStays(t *testing.T) {
	log, replies := chosen()
	acts := inOrder(log, replies)
	acts = append(acts, both(history(3, 5, 3), api.Reply{Code: api.RDone, Version: 4, Versions: []int{1, 2, 0, 4}}, 7)...)
	acts[0], acts[2] = acts[2], acts[0]
	before, logBefore := fmt.Sprint(acts), fmt.Sprint(log)
	for range 3 {
		check.Check(acts, log, 5, true)
		check.Writes(acts, log, 5)
		if l := check.Places(acts); len(l) > 0 {
			t.Error("such acts may not be")
		}
		acts[0], acts[2] = acts[2], acts[0]
		if l := check.Places(acts); len(l) == len(acts) {
			l[0] = 9 // it is the caller's own
		}
		check.Check(acts, log, 5, true)
		wantPlaces(t, acts[:2], 0, 1)
		acts[0], acts[2] = acts[2], acts[0]
		if fmt.Sprint(acts) != before || fmt.Sprint(log) != logBefore {
			t.Fatalf("they are %v, %v now", acts, log)
		}
	}
}

// No call panics, whatever it is given, and each says the same again.
func TestAnythingMayBeHandedIn(t *testing.T) {
	numbers := []int{math.MinInt, -1, 0, 1, 2, 3, 4, 6, 7, 31, 32, 1 << 30, 1<<30 + 1, 1 << 32, math.MaxInt}
	said := func() string {
		var w strings.Builder
		for _, a := range numbers {
			for _, b := range numbers {
				for _, c := range numbers {
					q := api.Req{Client: a, Seq: b, Kind: c, Id: 3, Match: b}
					r := api.Reply{Code: c, Version: a, Versions: []int{b}}
					acts := []api.Act{asks(q), told(q, r, c), {Client: b, Seq: c, Answer: true, Req: q, Reply: r, At: a}}
					for n := range 4 {
						fmt.Fprint(&w, check.Places(acts[:n]), check.Check(acts[:n], []api.Req{q}, 5, true), check.Check(acts[:n], nil, a, true), check.Writes(acts[:n], []api.Req{create(1, 1, 3, "a"), q}, 1))
					}
				}
			}
		}
		return w.String()
	}
	if said() != said() {
		t.Error("the same calls answer otherwise")
	}
}

// made answers a store in which the requests of a log were Put.
func made(log []api.Req, quota int) *store.Store {
	s, _ := store.New(quota)
	for _, q := range log {
		s.Put(q)
	}
	return s
}

func sameReply(a, b api.Reply) bool {
	return a.Code == b.Code && a.Version == b.Version && a.Data == b.Data && slices.Equal(a.Versions, b.Versions)
}
