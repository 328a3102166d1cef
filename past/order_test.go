package past_test

import (
	"slices"
	"testing"

	"casebook/api"
	"casebook/past"
	"casebook/store"
)

// 22.2: it is what is asked when there is to be one order of all that was answered (23)

// cluster is clients that ask one log, at any moment between their asking and their being told; faults are what it does wrong.
type cluster struct {
	stale   bool // what reads is told what was, some requests ago
	early   bool // what writes is told ahead of its standing, and may never stand
	forgets bool // the last request of the log gets lost, now and then
	next    func(n int) int
	p       *past.Past
	log     []api.Req
	at      [api.MaxClients]int // where what each client waits for was done, from 1 on (0: it was not)
	reply   [api.MaxClients]api.Reply
	seqs    [api.MaxClients]int
}

// made answers a store in which so many requests of a log were Put, and what the last one of them was told.
func made(log []api.Req) (*store.Store, api.Reply) {
	s, _ := store.New(5)
	var reply api.Reply
	for _, q := range log {
		reply, _ = s.Put(q)
	}
	return s, reply
}

func (c *cluster) ask(client int) {
	q := random(c.next, client, c.seqs[client]+1)
	q.Id, q.Match = c.next(2), min(q.Match, 1+c.next(3))
	if c.p.Ask(q) == api.OK {
		c.seqs[client]++
		c.at[client] = -1
	}
}

// do has the log do what a client waits for.
func (c *cluster) do(q api.Req) {
	if c.at[q.Client] >= 0 {
		return
	}
	if q.Kind > api.OpDelete {
		n := len(c.log)
		if c.stale {
			n -= min(c.next(4), n)
		}
		s, _ := made(c.log[:n])
		c.reply[q.Client], _ = s.Ask(q)
		c.at[q.Client] = n
		return
	}
	_, c.reply[q.Client] = made(append(slices.Clone(c.log), q))
	c.at[q.Client] = len(c.log) + 1
	if !c.early || c.next(4) > 0 {
		c.log = append(c.log, q)
	}
}

func (c *cluster) step() {
	waits := c.p.Pending()
	switch {
	case c.next(3) == 0:
		c.ask(c.next(api.MaxClients))
	case len(waits) == 0:
	case c.next(2) == 0:
		c.do(waits[c.next(len(waits))])
	default:
		q := waits[c.next(len(waits))]
		if c.at[q.Client] >= 0 {
			c.p.Answer(q.Client, q.Seq, c.reply[q.Client], c.at[q.Client])
		}
	}
	if c.forgets && c.next(40) == 0 && len(c.log) > 0 {
		c.log = c.log[:len(c.log)-1]
	}
}

// firstWrong answers the number of the first answer that is not such as follows of the log, by the words of chapter 23: 0, if all are.
func firstWrong(acts []api.Act, log []api.Req) int {
	last, asked := 0, map[int]int{} // the greatest place of all answers; of each client, what that was when it asked
	for k, a := range acts {
		if !a.Answer {
			asked[a.Client] = last
			continue
		}
		place := max(a.At, asked[a.Client])
		if place > len(log) {
			return k + 1
		}
		s, reply := made(log[:place])
		if a.Req.Kind > api.OpDelete {
			reply, _ = s.Ask(a.Req)
		} else if a.At < 1 || a.At <= asked[a.Client] || log[a.At-1] != a.Req {
			return k + 1
		}
		if !sameAct(told(a.Req, reply, a.At), a) {
			return k + 1
		}
		last = max(last, a.At)
	}
	return 0
}

// scripts answers in how many scripts an answer was wrong, and how many there were in all.
func scripts(t *testing.T, change func(c *cluster)) (int, int) {
	t.Helper()
	next := numbers()
	broken, answers := 0, 0
	for range 100 {
		c := &cluster{next: next, p: past.New()}
		change(c)
		for range 200 {
			c.step()
		}
		acts := c.p.Acts()
		if !past.May(acts) {
			t.Fatalf("May(%v)", acts)
		}
		if firstWrong(acts, c.log) > 0 {
			broken++
		}
		for _, a := range acts {
			if a.Answer {
				answers++
			}
		}
	}
	return broken, answers
}

// Clients that are told what one log tells: that is seen in the acts.
func TestActsTellOfOneOrder(t *testing.T) {
	if broken, answers := scripts(t, func(c *cluster) {}); broken > 0 || answers < 1000 {
		t.Errorf("broken in %d scripts, of %d answers", broken, answers)
	}
}

// So is it, if they were not.
func TestActsTellOfWhatIsWrong(t *testing.T) {
	for name, change := range map[string]func(c *cluster){
		"what reads is told what was":           func(c *cluster) { c.stale = true },
		"what writes is told before it stands":  func(c *cluster) { c.early = true },
		"what was answered is forgotten by all": func(c *cluster) { c.forgets = true },
	} {
		if broken, answers := scripts(t, change); broken == 0 || answers < 1000 {
			t.Errorf("%s: this finds nothing in %d answers", name, answers)
		}
	}
}
