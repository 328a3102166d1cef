package hold_test

import (
	"testing"

	"casebook/api"
	"casebook/hold"
)

// asked is a question, and who told.
type asked struct {
	now, epoch int
	told       map[int]bool
}

// plain is one told by the chapter's words: it keeps each question, the first one at 0.
type plain struct {
	n         int
	questions []asked
}

func (p *plain) ask(now, epoch int) int {
	last := len(p.questions) - 1
	if now < 0 || now > api.MaxTick || epoch < 1 || epoch > api.MaxEpoch || last >= 0 && now < p.questions[last].now {
		return -1
	}
	p.questions = append(p.questions, asked{now, epoch, map[int]bool{}})
	return len(p.questions)
}

// lastFour answers where the last four questions begin.
func (p *plain) lastFour() int { return max(0, len(p.questions)-4) }

func (p *plain) tell(id, node int) bool {
	if node < 0 || node >= p.n || id-1 < p.lastFour() || id > len(p.questions) {
		return false
	}
	q, last := p.questions[id-1], p.questions[len(p.questions)-1]
	if q.epoch != last.epoch {
		return false
	}
	q.told[node] = true
	return true
}

func (p *plain) valid(now, epoch int) bool {
	for _, q := range p.questions[p.lastFour():] {
		if q.epoch == epoch && 2*len(q.told) > p.n && now >= q.now && now < q.now+20 {
			return true
		}
	}
	return false
}

func (p *plain) lost() {
	for k := range p.questions {
		p.questions[k].told = map[int]bool{}
	}
}

// Kinds of calls.
const (
	ask = iota
	tell
	lost
)

// call is one that changes something: a question of an epoch at a time, or who tells of one.
type call struct{ kind, a, b int }

// do does a call of both, and answers if it was one that may be. It fails unless both say the same.
func (x call) do(t *testing.T, h *hold.Hold, p *plain) bool {
	t.Helper()
	switch x.kind {
	case ask:
		want := p.ask(x.a, x.b)
		if got := h.Ask(x.a, x.b); got != want {
			t.Fatalf("%v: %v: %d; not %d", p.questions, x, got, want)
		}
		return want > 0
	case tell:
		want := p.tell(x.a, x.b)
		if h.Told(x.a, x.b) != want {
			t.Fatalf("%v: %v: %t", p.questions, x, !want)
		}
		return want
	default:
		p.lost()
		h.Lost()
		return true
	}
}

// wantSame fails unless both are valid at the same times, around those at which leases begin and end. It tells how often they are.
func wantSame(t *testing.T, h *hold.Hold, p *plain, epochs ...int) int {
	t.Helper()
	valid := 0
	for _, q := range p.questions[max(0, len(p.questions)-5):] {
		for _, now := range []int{q.now - 1, q.now, q.now + 19, q.now + 20} {
			for _, epoch := range epochs {
				want := p.valid(now, epoch)
				if h.Valid(now, epoch) != want {
					t.Fatalf("%v: Valid(%d, %d): %t", p.questions, now, epoch, !want)
				}
				if want {
					valid++
				}
			}
		}
	}
	return valid
}

// Behind each call of each script of five of some chosen calls.
func TestEachShortScript(t *testing.T) {
	calls := []call{{ask, 10, 1}, {ask, 10, 2}, {ask, 30, 1}, {ask, 9, 1}, {lost, 0, 0}}
	for id := 1; id <= 2; id++ {
		for node := range 3 {
			calls = append(calls, call{tell, id, node})
		}
	}
	for first := range 3 { // a script's calls behind one to three questions
		eachScript(calls, 5, func(script []call) {
			h, p := begun(t, 2), &plain{n: 2}
			for k := range first {
				call{ask, 10, 1 + k%2}.do(t, h, p)
			}
			for _, x := range script {
				x.do(t, h, p)
			}
			wantSame(t, h, p, 1, 2)
		})
	}
}

// eachScript goes over all scripts of so many of some calls.
func eachScript(calls []call, long int, do func(script []call)) {
	many := 1
	for range long {
		many *= len(calls)
	}
	script := make([]call, long)
	for x := range many {
		for k := range script {
			script[k] = calls[x%len(calls)]
			x /= len(calls)
		}
		do(script)
	}
}

// numbers answers a call that answers numbers from 0 to below n, the same ones in each run.
func numbers() func(n int) int {
	state := uint64(1)
	return func(n int) int {
		state = state*6364136223846793005 + 1442695040888963407
		return int((state >> 33) % uint64(n))
	}
}

// anyCall answers one that mostly may be, at some time near now.
func anyCall(next func(n int) int, p *plain, now, epoch int) call {
	switch x := next(100); {
	case x < 12:
		return call{ask, now, epoch}
	case x < 14:
		return call{ask, now - 3 + next(6), epoch - 1 + next(3)}
	case x < 15:
		return call{kind: lost}
	default:
		return call{tell, len(p.questions) - next(6) + next(10)/9, next(p.n+1) - next(10)/9}
	}
}

// Behind each call of many long scripts, in which time goes on and epochs change.
func TestLongScripts(t *testing.T) {
	next := numbers()
	done, refused, valid := 0, 0, 0
	for script := range 300 {
		n := 1 + script%api.MaxNodes
		h, p := begun(t, n), &plain{n: n}
		now, epoch := []int{0, 7, 1 << 32, api.MaxTick - 300}[script%4], 1+script%3
		for range 300 {
			now += next(4) / 2
			epoch += next(100) / 97 * (next(3) - 1)
			if anyCall(next, p, now, epoch).do(t, h, p) {
				done++
			} else {
				refused++
			}
			valid += wantSame(t, h, p, epoch-1, epoch, epoch+1)
		}
	}
	if done < 20000 || refused < 20000 || valid < 20000 {
		t.Errorf("only %d calls were done, %d refused, %d times valid", done, refused, valid)
	}
}
