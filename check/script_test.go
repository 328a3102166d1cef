package check_test

import (
	"slices"
	"testing"

	"casebook/api"
	"casebook/check"
	"casebook/past"
	"casebook/store"
)

// asking answers where the request was asked that is answered at k.
func asking(acts []api.Act, k int) int {
	for j := k - 1; j >= 0; j-- {
		if acts[j].Client == acts[k].Client {
			return j
		}
	}
	return -1
}

// placesByWords answers places by the words of the chapter: each is looked for among all acts ahead of it.
func placesByWords(acts []api.Act) []int {
	if !past.May(acts) {
		return nil
	}
	l := make([]int, len(acts))
	for k, a := range acts {
		switch {
		case !a.Answer:
			for j := range k {
				if acts[j].Answer && l[j] > l[k] {
					l[k] = l[j]
				}
			}
		case a.Req.Kind <= api.OpDelete || a.At > l[asking(acts, k)]:
			l[k] = a.At
		default:
			l[k] = l[asking(acts, k)]
		}
	}
	return l
}

// rightByWords tells if an answer is such as follows, by the words of the chapter: with a new store for each.
func rightByWords(a api.Act, place, asked int, log []api.Req, quota int) bool {
	if place > len(log) {
		return false
	}
	if a.Req.Kind > api.OpDelete {
		reply, _ := made(log[:place], quota).Ask(a.Req)
		return sameReply(reply, a.Reply)
	}
	if place < 1 || place <= asked || log[place-1] != a.Req {
		return false
	}
	reply, _ := made(log[:place-1], quota).Put(a.Req)
	return sameReply(reply, a.Reply)
}

// checkByWords answers what the chapter says.
func checkByWords(acts []api.Act, log []api.Req, quota int, reads bool) int {
	s, e := store.New(quota)
	for _, q := range log {
		if e == api.OK {
			_, e = s.Put(q)
		}
	}
	if e != api.OK || !past.May(acts) {
		return api.ErrArg
	}
	l, answers := placesByWords(acts), 0
	for k, a := range acts {
		if !a.Answer {
			continue
		}
		answers++
		looked := reads || a.Req.Kind <= api.OpDelete
		if looked && !rightByWords(a, l[k], l[asking(acts, k)], log, quota) {
			return -answers
		}
	}
	return 0
}

// wantByWords fails unless all is as by the words of the chapter. It answers what Check tells with reads.
func wantByWords(t *testing.T, acts []api.Act, log []api.Req, quota int) int {
	t.Helper()
	want := checkByWords(acts, log, quota, true)
	wantCheck(t, acts, log, quota, want, checkByWords(acts, log, quota, false))
	wantPlaces(t, acts, placesByWords(acts)...)
	return want
}

// some are acts of which lists are made: of two clients that write one resource, and read it.
func some() []api.Act {
	one, two, three, last := create(0, 1, 3, "a"), update(1, 1, 3, 0, "b"), read(0, 2, 3), read(1, 2, 3)
	return []api.Act{
		asks(one), asks(two), asks(three), asks(last),
		told(one, done(1), 1), told(two, done(2), 2), told(one, done(1), 2), told(two, done(2), 0),
		told(three, shows(1, "a"), 1), told(three, shows(2, "b"), 0), told(last, shows(2, "b"), 2), told(last, shows(1, "a"), 0), told(last, shows(2, "b"), 3),
	}
}

// Each list of so many of them, by each of some logs.
func TestEachShortList(t *testing.T) {
	one, two := create(0, 1, 3, "a"), update(1, 1, 3, 0, "b")
	logs := [][]api.Req{nil, {one}, {one, two}, {two, one}, {one, two, remove(2, 1, 4, 0)}, {one, one}}
	all, right, wrong := [][]api.Act{nil}, 0, 0
	for range 5 {
		var longer [][]api.Act
		for _, l := range all {
			for _, a := range some() {
				acts := append(slices.Clone(l), a)
				if past.May(acts) {
					longer = append(longer, acts)
				}
			}
		}
		for _, acts := range longer {
			for _, log := range logs {
				switch wantByWords(t, acts, log, 5) {
				case 0:
					right++
				case api.ErrArg:
				default:
					wrong++
				}
			}
			if t.Failed() {
				return
			}
		}
		all = longer
	}
	if right < 300 || wrong < 300 {
		t.Errorf("only %d are right, %d wrong", right, wrong)
	}
}

// Along scripts of clients that one log answers, now and then wrongly; and with one act, or one request of the log, changed.
func TestLongLists(t *testing.T) {
	next := numbers()
	right, wrong := 0, 0
	for script := range 200 {
		c := newCluster(next)
		c.stale, c.early, c.forgets = script%8 == 1, script%8 == 2, script%8 == 3
		for range 60 {
			c.step()
		}
		for range 30 {
			acts, log := c.p.Acts(), slices.Clone(c.log)
			change(next, acts, log)
			switch wantByWords(t, acts, log, 1+next(6)) {
			case 0:
				right++
			case api.ErrArg:
			default:
				wrong++
			}
			if t.Failed() {
				return
			}
		}
	}
	if right < 1000 || wrong < 1000 {
		t.Errorf("only %d are right, %d wrong", right, wrong)
	}
}

// change changes some part of acts or of a log, or none.
func change(next func(n int) int, acts []api.Act, log []api.Req) {
	if len(acts) == 0 || len(log) == 0 {
		return
	}
	k, j, n := next(len(acts)), next(len(acts)), next(len(log))
	switch a := &acts[k]; next(7) {
	case 0:
		if a.Answer {
			a.At += next(5) - 2
		}
	case 1:
		if a.Answer {
			a.Reply.Version += next(3) - 1
		}
	case 2:
		if a.Answer && acts[j].Answer {
			a.Reply = acts[j].Reply
		}
	case 3:
		acts[k], acts[j] = acts[j], acts[k]
	case 4:
		log[n].Id = next(3)
	case 5:
		log[n], log[next(len(log))] = log[next(len(log))], log[n]
	}
}

// A long past is gone over as fast as a short one: this would not end soon, if each answer had a store of its own, or looked at all acts ahead of it.
func TestLongPast(t *testing.T) {
	const long = 100_000
	var acts []api.Act
	var log []api.Req
	s := made(nil, api.MaxQuota)
	for k := range long {
		q := update(k%api.MaxClients, 2*k+1, k%32, 0, "b")
		if k < 32 || k%3 == 0 {
			q = create(q.Client, q.Seq, q.Id, "a")
		}
		reply, _ := s.Put(q)
		log = append(log, q)
		acts = append(acts, both(q, reply, k+1)...)
		r := read(k%api.MaxClients, 2*k+2, k%31)
		reply, _ = s.Ask(r)
		acts = append(acts, both(r, reply, k+1-k%2)...)
	}
	wantPlaces(t, acts[:4], 0, 1, 1, 1)
	if l := check.Places(acts); len(l) != 4*long || l[4*long-1] != long {
		t.Errorf("%d places", len(l))
	}
	if got := check.Check(acts, log, api.MaxQuota, true); got != 0 {
		t.Errorf("Check: %d", got)
	}
	acts[4*long-1].Reply.Code = 99
	if with, without := check.Check(acts, log, api.MaxQuota, true), check.Writes(acts, log, api.MaxQuota); with != -2*long || without != 0 {
		t.Errorf("Check: %d, Writes: %d", with, without)
	}
}
