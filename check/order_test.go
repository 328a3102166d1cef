package check_test

import (
	"slices"
	"testing"

	"casebook/api"
	"casebook/check"
	"casebook/past"
)

// 23.3: if Check is 0 there is one order of all that was answered (T1)

// numbers answers a call that answers numbers from 0 to below n, the same ones in each run.
func numbers() func(n int) int {
	state := uint64(1)
	return func(n int) int {
		state = state*6364136223846793005 + 1442695040888963407
		return int((state >> 33) % uint64(n))
	}
}

// cluster is clients that ask one log, at any moment between their asking and their being told. What reads may be told any place from which on its resource stayed as it is. The others are what it does wrong.
type cluster struct {
	stale   bool // what reads is told what was, some requests ago
	early   bool // what writes is told ahead of its standing, and may never stand
	forgets bool // the last request of the log gets lost, now and then
	twice   bool // what writes is done once more, behind all
	swaps   bool // the last two requests of the log change places, now and then
	next    func(n int) int
	ids     int
	p       *past.Past
	log     []api.Req
	at      [api.MaxClients]int // where what each client waits for was done (-1: it was not)
	reply   [api.MaxClients]api.Reply
	seqs    [api.MaxClients]int
}

func newCluster(next func(n int) int) *cluster { return &cluster{next: next, ids: 2, p: past.New()} }

func (c *cluster) ask(client int) {
	id, seq := c.next(c.ids), c.seqs[client]+1
	q := kinds(client, seq)[c.next(6)]
	q.Id = id
	if q.Kind == api.OpUpdate || q.Kind == api.OpDelete {
		q.Match = c.next(3)
	}
	if q.Kind < api.OpDelete {
		q.Data = string(rune('a' + c.next(26)))
	}
	if c.p.Ask(q) == api.OK {
		c.seqs[client], c.at[client] = seq, -1
	}
}

// stays answers a place up to n from which on nothing was done on a resource.
func (c *cluster) stays(id, n int) int {
	for n > 0 && c.log[n-1].Id != id && c.next(4) > 0 {
		n--
	}
	return n
}

// do has the log do what a client waits for.
func (c *cluster) do(q api.Req) {
	if c.at[q.Client] >= 0 {
		return
	}
	if q.Kind > api.OpDelete {
		n := len(c.log)
		if c.stale {
			n -= min(c.next(4), n)
		}
		c.reply[q.Client], _ = made(c.log[:n], 5).Ask(q)
		c.at[q.Client] = c.stays(q.Id, n)
		return
	}
	c.reply[q.Client], _ = made(c.log, 5).Put(q)
	c.at[q.Client] = len(c.log) + 1
	if !c.early || c.next(4) > 0 {
		c.log = append(c.log, q)
	}
}

// harm does to the log what must not be.
func (c *cluster) harm() {
	n := len(c.log)
	if c.forgets && n > 0 {
		c.log = c.log[:n-1]
	} else if c.swaps && n > 1 && c.log[n-1].Client != c.log[n-2].Client {
		c.log[n-1], c.log[n-2] = c.log[n-2], c.log[n-1]
	}
}

func (c *cluster) step() {
	waits := c.p.Pending()
	switch {
	case c.next(3) == 0:
		c.ask(c.next(api.MaxClients))
	case len(waits) == 0:
	case c.next(2) == 0:
		c.do(waits[c.next(len(waits))])
	default:
		q := waits[c.next(len(waits))]
		if c.at[q.Client] >= 0 {
			c.p.Answer(q.Client, q.Seq, c.reply[q.Client], c.at[q.Client])
			if c.twice && q.Kind <= api.OpDelete && c.next(4) == 0 {
				// the same is done as another one of the client's, of which nobody knows
				c.seqs[q.Client]++
				q.Seq++
				c.log = append(c.log, q)
			}
		}
	}
	if c.next(30) == 0 {
		c.harm()
	}
}

// scripts answers in how many scripts Check finds a wrong answer with reads, in how many without, and how many answers there were.
func scripts(change func(c *cluster)) (int, int, int) {
	next := numbers()
	with, without, answers := 0, 0, 0
	for range 100 {
		c := newCluster(next)
		change(c)
		for range 300 {
			c.step()
		}
		acts := c.p.Acts()
		if check.Check(acts, c.log, 5, true) < 0 {
			with++
		}
		if check.Writes(acts, c.log, 5) < 0 {
			without++
		}
		answers += len(acts) - len(c.p.Pending())
	}
	return with, without, answers / 2
}

// What one log tells is right.
func TestOneLogIsOneOrder(t *testing.T) {
	if with, without, answers := scripts(func(c *cluster) {}); with > 0 || without > 0 || answers < 3000 {
		t.Errorf("wrong in %d scripts, in %d of what writes; %d answers", with, without, answers)
	}
}

// What is not one log's is found: with reads or without.
func TestWhatIsNotOneOrderIsFound(t *testing.T) {
	for name, change := range map[string]func(c *cluster){
		"what writes is told before it stands":  func(c *cluster) { c.early = true },
		"what was answered is forgotten by all": func(c *cluster) { c.forgets = true },
		"what stands changes its place":         func(c *cluster) { c.swaps = true },
	} {
		if with, without, answers := scripts(change); with < 80 || without < 80 || answers < 2000 {
			t.Errorf("%s: wrong in %d scripts, in %d of what writes; %d answers", name, with, without, answers)
		}
	}
	if with, without, answers := scripts(func(c *cluster) { c.stale = true }); with < 80 || without > 0 || answers < 2000 {
		t.Errorf("what reads is told what was: wrong in %d scripts, in %d of what writes; %d answers", with, without, answers)
	}
}

// Requests that nobody asked may stand between; what is told in that order is right.
func TestOthersMayStandBetween(t *testing.T) {
	if with, without, answers := scripts(func(c *cluster) { c.twice = true }); with > 0 || without > 0 || answers < 2000 {
		t.Errorf("wrong in %d scripts, in %d of what writes; %d answers", with, without, answers)
	}
}

// once is a request that is to be put into one order: asked and answered at these acts. What was not answered may stand anywhere, or nowhere.
type once struct {
	q               api.Req
	reply           api.Reply
	asked, answered int
	free            bool
}

// toOrder answers all that was answered, and what else stands in a log.
func toOrder(acts []api.Act, log []api.Req) []once {
	var l []once
	for k, a := range acts {
		if a.Answer {
			l = append(l, once{q: a.Req, reply: a.Reply, asked: asking(acts, k), answered: k})
		}
	}
	for _, q := range log {
		if !slices.ContainsFunc(l, func(x once) bool { return x.q == q }) {
			l = append(l, once{q: q, free: true})
		}
	}
	return l
}

// mayCome tells if one of those that are left may be done next: each other one that was answered ahead of its asking was done.
func mayCome(x once, left []once) bool {
	return x.free || !slices.ContainsFunc(left, func(y once) bool { return !y.free && y.answered < x.asked })
}

// behind answers a log with what writes behind it, and if that tells what it was told.
func behind(x once, log []api.Req, quota int) ([]api.Req, bool) {
	s := made(log, quota)
	if x.q.Kind > api.OpDelete {
		reply, _ := s.Ask(x.q)
		return log, sameReply(reply, x.reply)
	}
	reply, e := s.Put(x.q)
	return append(slices.Clone(log), x.q), e == api.OK && (x.free || sameReply(reply, x.reply))
}

// isOneOrder tells if what is left can be put behind a log, one behind the other, so that each is told what it was told. It tries all orders.
func isOneOrder(left []once, log []api.Req, quota int) bool {
	if !slices.ContainsFunc(left, func(x once) bool { return !x.free }) {
		return true
	}
	for k, x := range left {
		if !mayCome(x, left) {
			continue
		}
		if more, ok := behind(x, log, quota); ok && isOneOrder(slices.Delete(slices.Clone(left), k, k+1), more, quota) {
			return true
		}
	}
	return false
}

// Of each short script, right or wrong, with changes: if Check is 0, there is an order, as is found by trying all of them.
func TestCheckMeansOneOrder(t *testing.T) {
	next := numbers()
	right, none := 0, 0
	for script := range 3000 {
		c := newCluster(next)
		c.ids = 1 + script%2
		c.stale, c.early, c.forgets, c.swaps = script%5 == 1, script%5 == 2, script%5 == 3, script%5 == 4
		for range 30 {
			c.step()
		}
		for range 4 {
			acts, log := c.p.Acts(), slices.Clone(c.log)
			change(next, acts, log)
			got := check.Check(acts, log, 5, true)
			if got > 0 {
				continue
			}
			order := isOneOrder(toOrder(acts, log), nil, 5)
			if got == 0 && !order {
				t.Fatalf("there is no order of %v, by %v", acts, log)
			}
			if got == 0 {
				right++
			}
			if !order {
				none++
			}
		}
	}
	if right < 2000 || none < 500 {
		t.Errorf("%d were right; of %d there was no order", right, none)
	}
}

// Of what writes alone: Writes means one order of that.
func TestWritesMeansOneOrderOfThem(t *testing.T) {
	next := numbers()
	right, stale := 0, 0
	for script := range 2000 {
		c := newCluster(next)
		c.ids, c.stale, c.early, c.swaps = 1, script%3 == 0, script%3 == 1, script%3 == 2
		for range 30 {
			c.step()
		}
		acts := c.p.Acts()
		if check.Writes(acts, c.log, 5) != 0 {
			continue
		}
		l := slices.DeleteFunc(toOrder(acts, c.log), func(x once) bool { return x.q.Kind > api.OpDelete })
		if !isOneOrder(l, nil, 5) {
			t.Fatalf("there is no order of %v, by %v", acts, c.log)
		}
		right++
		if check.Check(acts, c.log, 5, true) != 0 {
			stale++
		}
	}
	if right < 500 || stale < 50 {
		t.Errorf("%d were right; of %d what reads was not", right, stale)
	}
}

// However it is told: of requests that have no order at all, each two places and each log are found to be wrong.
func TestNoLogMakesWrongOnesRight(t *testing.T) {
	one, two := create(0, 1, 3, "a"), create(1, 1, 3, "b")
	stories := [][]api.Act{
		{asks(one), asks(two), told(one, done(1), 0), told(two, done(1), 0)},                                                                             // both are the first one
		{asks(one), told(one, done(1), 0), asks(read(2, 1, 3)), told(read(2, 1, 3), api.Reply{Code: api.RNone}, 0)},                                      // what was answered is not there
		{asks(one), asks(read(2, 1, 3)), told(read(2, 1, 3), shows(1, "a"), 0), asks(read(3, 1, 3)), told(read(3, 1, 3), api.Reply{Code: api.RNone}, 0)}, // what was seen is not there
		{asks(read(2, 1, 3)), told(read(2, 1, 3), shows(1, "z"), 0)},                                                                                     // nobody wrote it
	}
	logs := [][]api.Req{nil, {one}, {two}, {one, two}, {two, one}}
	for k, acts := range stories {
		var answers []int
		for j, a := range acts {
			if a.Answer {
				answers = append(answers, j)
			}
		}
		places := 1
		for range answers {
			places *= 4
		}
		for at := range places {
			l := slices.Clone(acts)
			for left, j := at, 0; j < len(answers); left, j = left/4, j+1 {
				l[answers[j]].At = left % 4
			}
			for _, log := range logs {
				if got := check.Check(l, log, 5, true); got >= 0 {
					t.Fatalf("story %d: Check(%v, %v): %d", k, l, log, got)
				}
			}
		}
	}
}
