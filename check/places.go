package check

import (
	"iter"

	"casebook/api"
	"casebook/item"
)

// places is what is known of places behind some acts.
type places struct {
	greatest int                 // of all answers
	asked    [api.MaxClients]int // of what each client asked last
}

// next answers the place of the act that comes next.
func (p *places) next(a api.Act) int {
	if !a.Answer {
		p.asked[a.Client] = p.greatest
		return p.greatest
	}
	place := a.At
	if !item.Writes(a.Req) {
		place = max(place, p.asked[a.Client])
	}
	p.greatest = max(p.greatest, place)
	return place
}

// answer is an act that tells, with its number among all answers, from 1 on, its place and that of its asking.
type answer struct {
	api.Act
	number, place, asked int
}

// answers goes over the answers of acts that may be.
func answers(l []api.Act) iter.Seq[answer] {
	return func(yield func(answer) bool) {
		var p places
		number := 0
		for _, a := range l {
			place := p.next(a)
			if !a.Answer {
				continue
			}
			number++
			if !yield(answer{a, number, place, p.asked[a.Client]}) {
				return
			}
		}
	}
}
