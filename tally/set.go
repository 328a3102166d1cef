package tally

// set is of things that were counted, each once.
type set[T comparable] map[T]struct{}

// add counts a thing; false, if it was counted already.
func (s set[T]) add(x T) bool {
	_, had := s[x]
	s[x] = struct{}{}
	return !had
}

func (s set[T]) size() int { return len(s) }
