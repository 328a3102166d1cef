package ballot_test

import (
	"encoding/binary"
	"fmt"
	"math"
	"strings"
	"testing"

	"casebook/api"
	"casebook/ballot"
	"casebook/pack"
)

// of writes a ballot shortly.
func of(round, node int) api.Ballot { return api.Ballot{Round: round, Node: node} }

// rounds are some that may be, in their order.
func rounds() []int {
	return []int{
		0, 1, 2, 3, 4, 5, 127, 128, 300, 16383, 16384, 1<<31 - 1, 1 << 31, 1<<32 - 1, 1 << 32, 1<<32 + 1,
		1<<39 + 1, api.MaxBallot - 3, api.MaxBallot - 2, api.MaxBallot - 1, api.MaxBallot,
	}
}

// nodes are all that there may be, in their order.
func nodes() []int { return []int{0, 1, 2, 3, 4} }

// below are numbers that neither a Round nor a Node may be, in their order.
func below() []int {
	return []int{math.MinInt, math.MinInt + 1, -api.MaxBallot - 1, -api.MaxBallot, -1<<32 - 1, -1 << 32, -1<<32 + 1, -1 << 31, -api.MaxNodes, -2, -1}
}

// noRounds are numbers that no Round may be.
func noRounds() []int {
	return append(below(), api.MaxBallot+1, api.MaxBallot+2, 2*api.MaxBallot, 1<<62, 1<<62+1, math.MaxInt-1, math.MaxInt)
}

// noNodes are numbers that no Node may be.
func noNodes() []int {
	return append(below(), api.MaxNodes, api.MaxNodes+1, 1<<8, 1<<16+1, 1<<31, 1<<32-1, 1<<32, 1<<32+1, api.MaxBallot, math.MaxInt-1, math.MaxInt)
}

// pairs are the ballots of each of some Rounds with each of some Nodes, in the order of both.
func pairs(rounds, nodes []int) []api.Ballot {
	var l []api.Ballot
	for _, round := range rounds {
		for _, node := range nodes {
			l = append(l, of(round, node))
		}
	}
	return l
}

// all are ballots that may be, in their order.
func all() []api.Ballot { return pairs(rounds(), nodes()) }

// never are ballots that may not be: for their Round, their Node, or both.
func never() []api.Ballot {
	l := pairs(noRounds(), nodes())
	l = append(l, pairs(rounds(), noNodes())...)
	return append(l, pairs(noRounds(), noNodes())...)
}

// written answers what Put puts of some ballots, one behind the other.
func written(l ...api.Ballot) string {
	var w pack.Writer
	for _, b := range l {
		ballot.Put(&w, b)
	}
	return string(w.Bytes())
}

// nums answers numbers as Num writes them, by the library.
func nums(l ...uint64) string {
	var b []byte
	for _, v := range l {
		b = binary.AppendUvarint(b, v)
	}
	return string(b)
}

// 11.1: May

func TestMay(t *testing.T) {
	for _, b := range all() {
		if !ballot.May(b) {
			t.Errorf("%v may not be", b)
		}
	}
	for _, b := range never() {
		if ballot.May(b) {
			t.Errorf("%v may be", b)
		}
	}
	if !ballot.May(api.Ballot{}) {
		t.Error("the zero one may not be")
	}
}

// 11.1: Cmp

func TestCmpOfSome(t *testing.T) {
	for _, x := range []struct {
		a, b api.Ballot
		want int
	}{
		{of(0, 0), of(0, 0), 0},
		{of(3, 1), of(3, 1), 0},
		{of(3, 1), of(3, 2), -1},
		{of(3, 2), of(3, 1), 1},
		{of(2, 4), of(3, 0), -1},
		{of(3, 0), of(2, 4), 1},
		{of(0, 4), of(1, 0), -1},
		{of(1, 3), of(3, 1), -1},
		{of(api.MaxBallot, 4), of(api.MaxBallot, 4), 0},
		{of(api.MaxBallot, 0), of(0, 4), 1},
		{of(math.MinInt, 0), of(math.MaxInt, 0), -1},
		{of(math.MaxInt, 0), of(math.MinInt, 0), 1},
		{of(7, math.MinInt), of(7, math.MaxInt), -1},
		{of(7, math.MaxInt), of(7, math.MinInt), 1},
	} {
		if got := ballot.Cmp(x.a, x.b); got != x.want {
			t.Errorf("Cmp(%v, %v): %d; not %d", x.a, x.b, got, x.want)
		}
	}
}

// Ballots that may not be stand in the same order.
func TestCmpIsByRoundThenByNode(t *testing.T) {
	numbers := append(below(), rounds()...)
	numbers = append(numbers, api.MaxBallot+1, 1<<62, math.MaxInt-1, math.MaxInt)
	l := pairs(numbers, []int{math.MinInt, -api.MaxBallot, -1, 0, 1, 2, 3, 4, 5, 1 << 32, math.MaxInt})
	for i, a := range l {
		for j, b := range l {
			want := 0
			if i < j {
				want = -1
			} else if i > j {
				want = 1
			}
			if got := ballot.Cmp(a, b); got != want {
				t.Fatalf("Cmp(%v, %v): %d; not %d", a, b, got, want)
			}
		}
	}
}

// 11.1: Next

// wantNext fails unless Next answers this one; none, if it may not be.
func wantNext(t *testing.T, b api.Ballot, node int, want api.Ballot, is bool) {
	t.Helper()
	if got, ok := ballot.Next(b, node); got != want || ok != is {
		t.Errorf("Next(%v, %d): %v, %t; not %v, %t", b, node, got, ok, want, is)
	}
}

func TestNextOfSome(t *testing.T) {
	wantNext(t, of(3, 1), 2, of(3, 2), true)
	wantNext(t, of(3, 1), 0, of(4, 0), true)
	wantNext(t, of(3, 1), 1, of(4, 1), true)
	wantNext(t, of(3, 1), 4, of(3, 4), true)
	wantNext(t, of(3, 4), 4, of(4, 4), true)
	wantNext(t, of(0, 0), 0, of(1, 0), true)
	wantNext(t, of(0, 0), 1, of(0, 1), true)
	wantNext(t, of(0, 4), 3, of(1, 3), true)
	wantNext(t, of(1<<32-1, 2), 1, of(1<<32, 1), true)
}

func TestNextAtTheLastRound(t *testing.T) {
	const last = api.MaxBallot
	for _, had := range nodes() {
		for _, node := range nodes() {
			if node > had {
				wantNext(t, of(last, had), node, of(last, node), true)
				wantNext(t, of(last-1, had), node, of(last-1, node), true)
			} else {
				wantNext(t, of(last, had), node, api.Ballot{}, false)
				wantNext(t, of(last-1, had), node, of(last, node), true)
			}
		}
	}
}

func TestNextOfWhatMayNotBe(t *testing.T) {
	for _, b := range never() {
		for _, node := range append(noNodes(), nodes()...) {
			wantNext(t, b, node, api.Ballot{}, false)
		}
	}
}

func TestNextOfNoNode(t *testing.T) {
	for _, b := range all() {
		for _, node := range noNodes() {
			wantNext(t, b, node, api.Ballot{}, false)
		}
	}
}

// Each ballot of the node from the beginning on is looked at, until one is greater.
func TestNextIsTheLeastThatIsGreater(t *testing.T) {
	for _, b := range pairs([]int{0, 1, 2, 3, 4, 5, 6, 7, 8, 9}, nodes()) {
		for _, node := range nodes() {
			round := 0
			for round < 20 && ballot.Cmp(of(round, node), b) <= 0 {
				round++
			}
			wantNext(t, b, node, of(round, node), true)
		}
	}
}

// Of great ones it is told by what is just below it: the node's ballot of the Round ahead is not greater.
func TestNextIsTheLeastThatIsGreaterOfGreatOnes(t *testing.T) {
	for _, b := range all() {
		for _, node := range nodes() {
			next, is := ballot.Next(b, node)
			if !is {
				next = of(api.MaxBallot+1, node)
			}
			if next.Node != node || ballot.May(next) != is || ballot.Cmp(next, b) != 1 || ballot.Cmp(of(next.Round-1, node), b) == 1 {
				t.Errorf("Next(%v, %d): %v, %t", b, node, next, is)
			}
		}
	}
}

// 11.1: Put

func TestPut(t *testing.T) {
	for b, want := range map[api.Ballot]string{
		of(0, 0):               "\x00\x00",
		of(3, 1):               "\x03\x01",
		of(300, 2):             "\xac\x02\x02",
		of(127, 4):             "\x7f\x04",
		of(128, 0):             "\x80\x01\x00",
		of(api.MaxBallot, 3):   "\x80\x80\x80\x80\x80\x20\x03",
		of(api.MaxBallot-1, 4): "\xff\xff\xff\xff\xff\x1f\x04",
	} {
		if got := written(b); got != want {
			t.Errorf("Put(%v): %x; not %x", b, got, want)
		}
	}
	for _, b := range all() {
		if got, want := written(b), nums(uint64(b.Round), uint64(b.Node)); got != want {
			t.Errorf("Put(%v): %x; not %x", b, got, want)
		}
	}
}

func TestPutGoesBehindWhatIsThere(t *testing.T) {
	var w pack.Writer
	w.Text("ab")
	ballot.Put(&w, of(300, 2))
	w.Yes(true)
	ballot.Put(&w, of(1, 0))
	if got := string(w.Bytes()); got != "\x02ab\xac\x02\x02\x01\x01\x00" {
		t.Errorf("%x", got)
	}
}

func TestPutToNobody(t *testing.T) {
	ballot.Put(nil, of(3, 1))
	ballot.Put(nil, of(-1, math.MaxInt))
}

// 11.1: Get

func TestGetWhatWasPut(t *testing.T) {
	l := all()
	r := pack.New([]byte(written(l...)))
	for i, want := range l {
		if got := ballot.Get(r); got != want {
			t.Fatalf("Get of number %d: %v; not %v", i, got, want)
		}
	}
	if e := r.End(); e != api.OK {
		t.Errorf("End behind all: %d", e)
	}
}

func TestGetLeavesTheRest(t *testing.T) {
	r := pack.New([]byte("\x02ab\xac\x02\x02\x01\x07"))
	r.Text(2)
	if b := ballot.Get(r); b != of(300, 2) || r.End() != api.ErrOrder {
		t.Errorf("Get: %v, End %d", b, r.End())
	}
	if !r.Yes() || r.Num(7) != 7 || r.End() != api.OK {
		t.Errorf("the rest: End %d", r.End())
	}
}

// wantNone fails unless no ballot stands at the beginning of some bytes, so that the Reader is wrong for good.
func wantNone(t *testing.T, what, s string) {
	t.Helper()
	r := pack.New([]byte(s))
	ballot.Get(r)
	if e := r.End(); e != api.ErrBad {
		t.Errorf("%s: End is %d", what, e)
	}
	if b := ballot.Get(r); b != (api.Ballot{}) || r.End() != api.ErrBad {
		t.Errorf("%s: of a wrong Reader: %v, End %d", what, b, r.End())
	}
}

func TestGetOfWrongBytes(t *testing.T) {
	for what, s := range map[string]string{
		"nothing":                     "",
		"no Node":                     "\x03",
		"no Node behind a long Round": "\xac\x02",
		"a Round that is cut off":     "\xac",
		"a Node that is cut off":      "\x03\x80",
		"a Round written longer":      "\x83\x00\x01",
		"a Node written longer":       "\x03\x81\x00",
		"a Node one above the last":   "\x03\x05",
		"a great Node":                nums(3, math.MaxUint64),
		"a Node whose low bits may":   nums(3, 1<<32+1),
		"a Round one above the last":  nums(api.MaxBallot+1, 1),
		"a Round of twice the last":   nums(2*api.MaxBallot, 1),
		"a great Round":               nums(math.MaxUint64, 1),
		"a Round of 2^63":             nums(1<<63, 1),
		"a Round of eleven bytes":     strings.Repeat("\x80", 10) + "\x01\x01",
	} {
		wantNone(t, what, s)
		wantNone(t, what+", and more", s+strings.Repeat("\xff", 12))
	}
}

// Where the Round is wrong nothing of it is told, and what stands behind it is no Node.
func TestGetOfWrongRounds(t *testing.T) {
	for _, s := range []string{"", "\xac", "\x83\x00\x01", nums(api.MaxBallot+1, 1), nums(math.MaxUint64, 1)} {
		if b := ballot.Get(pack.New([]byte(s))); b != (api.Ballot{}) {
			t.Errorf("Get of %x: %v", s, b)
		}
	}
}

// Of a Node that is wrong nothing is told: the chapter leaves open only if the Round that was read ahead of it is.
func TestGetOfWrongNodes(t *testing.T) {
	for _, s := range []string{"\x03", "\x03\x80", "\x03\x81\x00", "\x03\x05", nums(3, math.MaxUint64), nums(3, 1<<32+1)} {
		if b := ballot.Get(pack.New([]byte(s))); b != of(3, 0) && b != (api.Ballot{}) {
			t.Errorf("Get of %x: %v", s, b)
		}
	}
}

func TestGetOfNobody(t *testing.T) {
	if b := ballot.Get(nil); b != (api.Ballot{}) {
		t.Errorf("%v", b)
	}
}

// None is got of the bytes of a ballot that may not be.
func TestGetOfWhatMayNotBe(t *testing.T) {
	for _, b := range never() {
		s := written(b)
		wantNone(t, fmt.Sprint(b), s)
		if min(b.Round, b.Node) >= 0 && s != nums(uint64(b.Round), uint64(b.Node)) {
			t.Errorf("Put(%v): %x", b, s)
		}
	}
}

// Of all that two bytes can be, a ballot is just what its Put writes.
func TestGetOfAnyTwoBytes(t *testing.T) {
	for i := range 1 << 16 {
		b := []byte{byte(i >> 8), byte(i)}
		r := pack.New(b)
		got := ballot.Get(r)
		is := b[0] < 128 && b[1] < api.MaxNodes
		if is != (r.End() == api.OK) {
			t.Fatalf("%x: End is %d", b, r.End())
		}
		if is && (got != of(int(b[0]), int(b[1])) || written(got) != string(b)) {
			t.Fatalf("%x: %v", b, got)
		}
	}
}
