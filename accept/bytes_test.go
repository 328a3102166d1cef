package accept_test

import (
	"encoding/binary"
	"math"
	"slices"
	"strings"
	"testing"

	"casebook/accept"
	"casebook/api"
)

// fullBytes are those of the acceptor that full makes: Known, Promised, Has, Accepted, Chain.
const fullBytes = "\x05\x05\x03\x03\x00\x01" + "\x07\x02" + "\x01" + "\x07\x02" + "\x05\x06\x03\x03\x01\x02"

func wantBytes(t *testing.T, a *accept.Acceptor, want string) {
	t.Helper()
	if b := a.Bytes(); string(b) != want {
		t.Errorf("Bytes: %x; not %x", b, want)
	}
}

// 13.2: Bytes

func TestBytes(t *testing.T) {
	a := begun(t, 3)
	wantBytes(t, a, "\x05\x01\x03\x00\x01\x02"+"\x00\x00"+"\x00")
	a.Prepare(2, at(300, 1))
	wantBytes(t, a, "\x05\x01\x03\x00\x01\x02"+"\xac\x02\x01"+"\x00")
	a.Accept(of(2, 2), at(300, 2), false)
	wantBytes(t, a, "\x05\x01\x03\x00\x01\x02"+"\xac\x02\x02"+"\x01"+"\xac\x02\x02"+"\x03\x02\x01\x02")
	a.Prepare(2, at(301, 0))
	wantBytes(t, a, "\x05\x01\x03\x00\x01\x02"+"\xad\x02\x00"+"\x01"+"\xac\x02\x02"+"\x03\x02\x01\x02")
	a.Learn(of(300, 2, 0))
	wantBytes(t, a, "\x05\xac\x02\x02\x02\x00"+"\x00\x00"+"\x00")
	a.Learn(of(api.MaxEpoch, 1))
	wantBytes(t, a, "\x07\x80\x80\x80\x80\x04\x01\x01"+"\x00\x00"+"\x00")
	wantBytes(t, full(t), fullBytes)
}

// 13.2: Load

// state is what stands in an acceptor's bytes, whether there may be such a one or not.
type state struct {
	known api.Chain
	vote  api.Vote
}

// plainNum puts a number as Num writes it, by the library; one below 0 wraps round.
func plainNum(b []byte, n int) []byte { return binary.AppendUvarint(b, uint64(n)) }

func plainBallot(b []byte, x api.Ballot) []byte { return plainNum(plainNum(b, x.Round), x.Node) }

func plainChain(b []byte, c api.Chain) []byte {
	text := plainNum(plainNum(nil, c.Epoch), len(c.Nodes))
	for _, node := range c.Nodes {
		text = plainNum(text, node)
	}
	return append(plainNum(b, len(text)), text...)
}

func plainBytes(s state) []byte {
	b := plainBallot(plainChain(nil, s.known), s.vote.Promised)
	if !s.vote.Has {
		return append(b, 0)
	}
	return plainChain(plainBallot(append(b, 1), s.vote.Accepted), s.vote.Chain)
}

// plainMayChain tells by chapter 2's words if a chain may be, and if its nodes are below n.
func plainMayChain(c api.Chain, n int) bool {
	if c.Epoch < 0 || c.Epoch > api.MaxEpoch || len(c.Nodes) < 1 || len(c.Nodes) > api.MaxNodes {
		return false
	}
	for k, node := range c.Nodes {
		if node < 0 || node >= n || slices.Contains(c.Nodes[:k], node) {
			return false
		}
	}
	return true
}

func plainMayBallot(b api.Ballot) bool {
	return b.Round >= 0 && b.Round <= api.MaxBallot && b.Node >= 0 && b.Node < api.MaxNodes
}

// plainFollows tells by chapter 12's words if b may follow a, both of which may be.
func plainFollows(a, b api.Chain) bool {
	last := -1
	for k, node := range b.Nodes {
		place := slices.Index(a.Nodes, node)
		switch {
		case place > last:
			last = place
		case place >= 0 || k == 0 || k < len(b.Nodes)-1:
			return false
		}
	}
	return b.Epoch == a.Epoch+1
}

// plainMayBe tells by the chapter's words if there is an acceptor of n nodes with such bytes.
func plainMayBe(s state, n int) bool {
	v := s.vote
	if !plainMayChain(s.known, n) || !plainMayBallot(v.Promised) {
		return false
	}
	return !v.Has || plainMayBallot(v.Accepted) && plainMayChain(v.Chain, n) && plainFollows(s.known, v.Chain) &&
		(v.Accepted.Round < v.Promised.Round || v.Accepted.Round == v.Promised.Round && v.Accepted.Node <= v.Promised.Node)
}

// taken reads what plainBytes puts, whether it may be or not; false, if bytes are too few, too many or wrong.
type taken struct {
	left  []byte
	wrong bool
}

func (r *taken) num() int {
	v, size := binary.Uvarint(r.left)
	if size <= 0 || v > math.MaxInt || len(plainNum(nil, int(v))) != size {
		r.wrong = true
		return 0
	}
	r.left = r.left[size:]
	return int(v)
}

func (r *taken) ballot() api.Ballot {
	round := r.num()
	return at(round, r.num())
}

func (r *taken) chain() api.Chain {
	size := r.num()
	if size > len(r.left) {
		r.wrong = true
		return api.Chain{}
	}
	in := taken{left: r.left[:size]}
	r.left = r.left[size:]
	c := api.Chain{Epoch: in.num()}
	for range min(in.num(), 1000) {
		c.Nodes = append(c.Nodes, in.num())
	}
	r.wrong = r.wrong || in.wrong || len(in.left) > 0
	return c
}

func plainRead(b []byte) (state, bool) {
	r := taken{left: b}
	s := state{known: r.chain()}
	s.vote.Promised = r.ballot()
	has := r.num()
	if s.vote.Has = has == 1; s.vote.Has {
		s.vote.Accepted = r.ballot()
		s.vote.Chain = r.chain()
	}
	return s, !r.wrong && has <= 1 && len(r.left) == 0
}

// wantNone fails unless Load tells an error, and nothing else.
func wantNone(t *testing.T, n int, b []byte, want int) {
	t.Helper()
	if a, e := accept.Load(n, b); a != nil || e != want {
		t.Errorf("Load(%d, %x): %v, %d; not %d", n, b, a, e, want)
	}
}

// wantLoaded fails unless Load makes the acceptor that knows and has such things, and that has these Bytes.
func wantLoaded(t *testing.T, n int, b []byte, s state) {
	t.Helper()
	a, e := accept.Load(n, b)
	if a == nil || e != api.OK {
		t.Errorf("Load(%d, %x): %v, %d; not %v", n, b, a, e, s)
		return
	}
	wantState(t, a, s.known, s.vote)
	wantBytes(t, a, string(b))
}

// wantTaken fails unless Load takes bytes just if there is such an acceptor.
func wantTaken(t *testing.T, n int, b []byte) {
	t.Helper()
	if s, is := plainRead(b); is && plainMayBe(s, n) {
		wantLoaded(t, n, b, s)
	} else {
		wantNone(t, n, b, api.ErrBad)
	}
}

func TestLoadOfSome(t *testing.T) {
	first := of(1, 0, 1, 2)
	for _, s := range []state{
		{first, api.Vote{}},
		{first, promised(at(300, 4))},
		{first, accepted(at(0, 0), at(0, 0), of(2, 0, 1, 2))},
		{first, accepted(at(7, 1), at(6, 2), of(2, 2))},
		{first, accepted(at(7, 1), at(7, 0), of(2, 0, 2))},
		{of(0, 2), api.Vote{}}, // whether any calls lead there is not asked
		{of(0, 2), accepted(at(7, 1), at(7, 1), of(1, 2, 0))},
		{of(9, 2, 0), accepted(at(api.MaxBallot, 4), at(api.MaxBallot, 4), of(10, 2, 0, 1))},
		{of(api.MaxEpoch-1, 2), accepted(at(5, 1), at(0, 0), of(api.MaxEpoch, 2))},
		{of(api.MaxEpoch, 1, 0), promised(at(api.MaxBallot, 0))},
	} {
		wantLoaded(t, 3, plainBytes(s), s)
	}
}

func TestLoadOfWhatMayNotBe(t *testing.T) {
	first := of(1, 0, 1, 2)
	for what, s := range map[string]state{
		"a Known without nodes":                   {of(1), api.Vote{}},
		"a Known with a node twice":               {of(1, 0, 0), api.Vote{}},
		"a Known with a node from n on":           {of(1, 0, 3), api.Vote{}},
		"a Known with no node":                    {of(1, 0, 5), api.Vote{}},
		"a Known of too many":                     {of(1, 0, 1, 2, 3, 4, 0), api.Vote{}},
		"a Known above the last epoch":            {of(api.MaxEpoch+1, 0), api.Vote{}},
		"a Known below all epochs":                {of(-1, 0), api.Vote{}},
		"a Known with a node from n on, and more": {of(1, 0, 3), accepted(at(7, 1), at(7, 1), of(2, 0))},
		"a Promised above the last Round":         {first, promised(at(api.MaxBallot+1, 0))},
		"a Promised of no node":                   {first, promised(at(1, api.MaxNodes))},
		"a Promised below all":                    {first, promised(at(-1, 0))},
		"an Accepted above the last Round":        {first, accepted(at(api.MaxBallot, 4), at(api.MaxBallot+1, 0), of(2, 0))},
		"an Accepted of no node":                  {first, accepted(at(9, 4), at(8, api.MaxNodes), of(2, 0))},
		"an Accepted above Promised by Round":     {first, accepted(at(7, 1), at(8, 0), of(2, 0))},
		"an Accepted above Promised by Node":      {first, accepted(at(7, 1), at(7, 2), of(2, 0))},
		"a chain of the same epoch":               {first, accepted(at(7, 1), at(7, 1), of(1, 0))},
		"a chain of an epoch too far":             {first, accepted(at(7, 1), at(7, 1), of(3, 0))},
		"a chain of an epoch ahead":               {of(5, 0), accepted(at(7, 1), at(7, 1), of(4, 0))},
		"a chain of another order":                {first, accepted(at(7, 1), at(7, 1), of(2, 1, 0))},
		"a chain of none that was":                {of(1, 0), accepted(at(7, 1), at(7, 1), of(2, 1))},
		"a chain of two that were not":            {of(1, 0), accepted(at(7, 1), at(7, 1), of(2, 0, 1, 2))},
		"a chain with a node from n on":           {of(1, 0), accepted(at(7, 1), at(7, 1), of(2, 0, 3))},
		"a chain without nodes":                   {first, accepted(at(7, 1), at(7, 1), of(2))},
		"a chain with a node twice":               {first, accepted(at(7, 1), at(7, 1), of(2, 0, 0))},
		"a chain above the last epoch":            {of(api.MaxEpoch, 0), accepted(at(7, 1), at(7, 1), of(api.MaxEpoch+1, 0))},
	} {
		b := plainBytes(s)
		if a, e := accept.Load(3, b); a != nil || e != api.ErrBad {
			t.Errorf("%s: Load of %x: %v, %d", what, b, a, e)
		}
	}
}

func TestLoadOfNoCluster(t *testing.T) {
	for _, n := range noCluster() {
		for _, b := range [][]byte{nil, []byte("\x00"), plainBytes(state{known: of(1, 0)}), plainBytes(state{known: of(1, 0, 1, 2, 3, 4)}), []byte(fullBytes)} {
			wantNone(t, n, b, api.ErrArg)
		}
	}
}

func TestLoadOfNothing(t *testing.T) {
	for n := 1; n <= api.MaxNodes; n++ {
		wantNone(t, n, nil, api.ErrBad)
		wantNone(t, n, []byte{}, api.ErrBad)
		for c := range 256 {
			wantNone(t, n, []byte{byte(c)}, api.ErrBad)
		}
	}
}

// Each that is cut off, or has more behind it.
func TestLoadOfTooFewOrTooMany(t *testing.T) {
	for _, s := range []state{
		{of(1, 0, 1, 2), api.Vote{}},
		{of(300, 2, 3), promised(at(300, 4))},
		{of(300, 2, 3), accepted(at(300, 4), at(300, 1), of(301, 3, 1))},
	} {
		b := plainBytes(s)
		for k := range b {
			wantNone(t, 4, b[:k], api.ErrBad)
		}
		for c := range 256 {
			wantNone(t, 4, append(slices.Clone(b), byte(c)), api.ErrBad)
		}
		wantNone(t, 4, slices.Concat(b, b), api.ErrBad)
	}
}

// Texts, numbers and Yes that Writers don't write so.
func TestLoadOfWrongWriting(t *testing.T) {
	const known, none = "\x05\x01\x03\x00\x01\x02", "\x00\x00\x00"
	wantLoaded(t, 3, []byte(known+none), state{known: of(1, 0, 1, 2)})
	for what, s := range map[string]string{
		"a text's length written longer":       "\x85\x00\x01\x03\x00\x01\x02" + none,
		"a text's length that is too great":    "\xff\xff\xff\xff\xff\xff\xff\xff\xff\x01" + known + none,
		"a text of eleven bytes for no chain":  "\x0b\x01\x03\x00\x01\x02\x00\x00\x00\x00\x00\x00" + none,
		"a long text for no chain":             "\xe8\x07" + strings.Repeat("\x01", 1000) + none,
		"a text with a byte behind its chain":  "\x06\x01\x03\x00\x01\x02\x00" + none,
		"a text that ends ahead of its chain":  "\x04\x01\x03\x00\x01" + none,
		"an empty text":                        "\x00" + none,
		"an epoch written longer":              "\x06\x81\x00\x03\x00\x01\x02" + none,
		"a Round written longer":               known + "\x80\x00\x00\x00",
		"a Node written longer":                known + "\x00\x80\x00\x00",
		"a Yes written longer":                 known + "\x00\x00\x80\x00",
		"a Yes of 2":                           known + "\x00\x00\x02",
		"no Yes":                               known + "\x00\x00",
		"a Yes, and nothing":                   known + "\x00\x00\x01",
		"a Yes, and an Accepted without chain": known + "\x00\x00\x01\x00\x00",
		"a No, and an Accepted and a chain":    known + "\x00\x00\x00\x00\x00\x03\x02\x01\x00",
		"no Accepted":                          known + "\x00\x00\x01\x03\x02\x01\x00",
	} {
		if a, e := accept.Load(3, []byte(s)); a != nil || e != api.ErrBad {
			t.Errorf("%s: Load of %x: %v, %d", what, s, a, e)
		}
	}
}

// chains are some for each epoch: some may be, of so many nodes, or follow another one.
func chains() []api.Chain {
	var l []api.Chain
	for _, epoch := range []int{-1, 0, 1, 2, api.MaxEpoch - 1, api.MaxEpoch, api.MaxEpoch + 1} {
		for _, nodes := range [][]int{{}, {0}, {1}, {2, 0}, {0, 2}, {0, 2, 1}, {0, 0}, {3, 0}, {0, 3}, {4}, {0, 5}, {0, 1, 2, 3, 4}, {0, 1, 2, 3, 4, 5}} {
			l = append(l, of(epoch, nodes...))
		}
	}
	return l
}

// Each two of some chains, with ballots of each order, in clusters of each size.
func TestLoadOfMany(t *testing.T) {
	ballots := [][2]api.Ballot{{at(0, 0), at(0, 0)}, {at(3, 1), at(3, 1)}, {at(3, 1), at(3, 2)}, {at(3, 2), at(3, 1)}, {at(3, 0), at(2, 4)}, {at(2, 4), at(3, 0)}, {at(1, 5), at(1, 0)}, {at(api.MaxBallot+1, 0), at(0, 0)}}
	may := 0
	for _, known := range chains() {
		var l []state
		for _, b := range ballots {
			l = append(l, state{known, promised(b[0])})
			for _, c := range chains() {
				l = append(l, state{known, accepted(b[0], b[1], c)})
			}
		}
		for _, s := range l {
			b := plainBytes(s)
			for n := 1; n <= api.MaxNodes; n++ {
				if plainMayBe(s, n) {
					may++
					wantLoaded(t, n, b, s)
				} else {
					wantNone(t, n, b, api.ErrBad)
				}
			}
		}
	}
	if may < 1000 {
		t.Errorf("only %d may be", may)
	}
}

// All bytes that are those of some acceptor with one changed, taken out or put in.
func TestLoadOfNeighbours(t *testing.T) {
	for _, s := range []state{
		{of(1, 0, 1, 2), api.Vote{}},
		{of(127, 1), promised(at(300, 4))},
		{of(5, 3, 0, 1), accepted(at(7, 2), at(7, 2), of(6, 3, 1, 2))},
		{of(128, 2), accepted(at(129, 2), at(128, 4), of(129, 2, 0))},
	} {
		b := plainBytes(s)
		wantLoaded(t, 4, b, s)
		for i := range len(b) + 1 {
			ahead, behind := b[:i], b[i:]
			for c := range 256 {
				wantTaken(t, 4, slices.Concat(ahead, []byte{byte(c)}, behind))
				if i < len(b) {
					wantTaken(t, 4, slices.Concat(ahead, []byte{byte(c)}, behind[1:]))
				}
			}
			if i < len(b) {
				wantTaken(t, 4, slices.Concat(ahead, behind[1:]))
			}
		}
	}
}

// One that was loaded goes on as the one did whose Bytes they were, in a cluster of as many nodes.
func TestLoadedOnesGoOn(t *testing.T) {
	for n := 1; n <= api.MaxNodes; n++ {
		a, e := accept.Load(n, begun(t, n).Bytes())
		if e != api.OK {
			t.Fatalf("Load: %d", e)
		}
		wantUnlearned(t, a, of(2, n), api.ErrArg)
		wantRefused(t, a, of(2, 0, n), at(9, 1), false, api.ErrArg)
		wantPrepared(t, a, 2, at(9, 1), promised(at(9, 1)))
		if a, e = accept.Load(n, a.Bytes()); e != api.OK {
			t.Fatalf("Load: %d", e)
		}
		wantUnprepared(t, a, 2, at(9, 0), api.ErrLate)
		wantAccepted(t, a, of(2, n-1), at(9, 1))
		wantLearned(t, a, of(2, n-1))
	}
}

// The bytes of one cluster's acceptor in another one.
func TestLoadInAnotherCluster(t *testing.T) {
	for had := 1; had <= api.MaxNodes; had++ {
		b := begun(t, had).Bytes()
		for n := 1; n <= api.MaxNodes; n++ {
			if n < had {
				wantNone(t, n, b, api.ErrBad)
				continue
			}
			a, e := accept.Load(n, b)
			if e != api.OK {
				t.Fatalf("Load(%d, %x): %d", n, b, e)
			}
			if n > had { // the others may come behind those that were
				wantAccepted(t, a, of(2, 0, n-1), at(1, 0))
			}
		}
	}
}
