package accept

import (
	"math"

	"casebook/api"
	"casebook/ballot"
	"casebook/chain"
	"casebook/item"
	"casebook/pack"
)

// part puts one part of an acceptor's bytes.
type part func(w *pack.Writer)

// Bytes is chapter 13's.
func (a *Acceptor) Bytes() []byte {
	if a == nil {
		return nil
	}
	var w pack.Writer
	put(&w, chainPart(a.known), ballotPart(a.vote.Promised), yesPart(a.vote.Has))
	if a.vote.Has {
		put(&w, ballotPart(a.vote.Accepted), chainPart(a.vote.Chain))
	}
	return w.Bytes()
}

// Load is chapter 13's.
func Load(n int, b []byte) (*Acceptor, int) {
	a, e := New(n)
	if e != api.OK {
		return nil, e
	}
	r := pack.New(b)
	a.known = getChain(r)
	a.vote.Promised = ballot.Get(r)
	a.vote.Has = r.Yes()
	if a.vote.Has {
		a.vote.Accepted = ballot.Get(r)
		a.vote.Chain = getChain(r)
	}
	if r.End() != api.OK || !a.mayKnow(a.known) || !a.mayHaveVote() {
		return nil, api.ErrBad
	}
	return a, api.OK
}

// mayHaveVote tells if what is accepted, if anything is, may follow Known, and was promised.
func (a *Acceptor) mayHaveVote() bool {
	return !a.vote.Has ||
		chain.Next(a.known, a.vote.Chain, a.n) && ballot.Cmp(a.vote.Accepted, a.vote.Promised) <= 0
}

func put(w *pack.Writer, parts ...part) {
	for _, p := range parts {
		p(w)
	}
}

// chainPart puts a chain that may be, as a Text.
func chainPart(c api.Chain) part {
	return func(w *pack.Writer) {
		b, _ := item.PutChain(c)
		w.Text(string(b))
	}
}

func ballotPart(b api.Ballot) part {
	return func(w *pack.Writer) { ballot.Put(w, b) }
}

func yesPart(is bool) part {
	return func(w *pack.Writer) { w.Yes(is) }
}

// getChain reads what chainPart puts; where there is no such thing it answers the zero chain, which may not be.
func getChain(r *pack.Reader) api.Chain {
	// A text that is too long for a chain is none.
	c, _ := item.GetChain([]byte(r.Text(math.MaxInt)))
	return c
}
