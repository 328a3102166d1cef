package past

import (
	"casebook/api"
	"casebook/item"
	"casebook/req"
)

// clients is what each client asked last. What is asked and answered goes by it alone, so that acts are judged by the same rules as they are written by.
type clients [api.MaxClients]asked

// asked is a request, of Seq 0 if there is none; waits: it was not answered.
type asked struct {
	api.Req
	waits bool
}

// ask has a client ask, and answers the act that this is.
func (c *clients) ask(q api.Req) (api.Act, int) {
	if !item.MayReq(q) {
		return api.Act{}, api.ErrArg
	}
	last := &c[q.Client]
	if last.waits {
		return api.Act{}, api.ErrState
	}
	if !req.Newer(q, last.Seq) {
		return api.Act{}, api.ErrOrder
	}
	*last = asked{q, true}
	return api.Act{Client: q.Client, Seq: q.Seq, Req: q}, api.OK
}

// answer has a client told what it waits for, and answers the act that this is.
func (c *clients) answer(client, seq int, r api.Reply, at int) (api.Act, int) {
	if at < 0 || at > api.MaxSeq {
		return api.Act{}, api.ErrArg
	}
	if !c.waitsFor(client, seq) {
		return api.Act{}, api.ErrState
	}
	last := &c[client]
	last.waits = false
	return api.Act{Client: client, Seq: seq, Answer: true, Req: last.Req, Reply: r, At: at}, api.OK
}

// may tells if an act may come now. If so, it did; if not, no more is to be asked.
func (c *clients) may(a api.Act) bool {
	written, e := c.next(a)
	return e == api.OK && same(written, a)
}

// next has a client do what an act says, and answers the act that this is.
func (c *clients) next(a api.Act) (api.Act, int) {
	if a.Answer {
		return c.answer(a.Client, a.Seq, a.Reply, a.At)
	}
	return c.ask(a.Req)
}

// pending answers the requests that wait.
func (c *clients) pending() []api.Req {
	var l []api.Req
	for _, last := range c {
		if last.waits {
			l = append(l, last.Req)
		}
	}
	return l
}

// waitsFor tells if there is such a client that waits for the answer to this one.
func (c *clients) waitsFor(client, seq int) bool {
	return client >= 0 && client < len(c) && c[client].waits && c[client].Seq == seq
}

// same tells if two acts are alike in all parts.
func same(a, b api.Act) bool {
	return a.Client == b.Client && a.Seq == b.Seq && a.Answer == b.Answer && a.At == b.At &&
		req.Same(a.Req, b.Req) && req.SameReply(a.Reply, b.Reply)
}
