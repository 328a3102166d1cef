package wal

import (
	"slices"
	"testing"
)

// A walk stops at each place at which it is told to, and is as before when it is gone over again.
func TestWalkStopsWhenTold(t *testing.T) {
	const many = 20
	var all []byte
	var ends []int
	for i := range many {
		frame, _ := Frame(make([]byte, i+1))
		all = append(all, frame...)
		ends = append(ends, len(all))
	}
	walk := frames(append(all, 0, 1, 2))
	for stop := range many + 1 {
		var seen []int
		for behind, record := range walk {
			if len(record) != len(seen)+1 {
				t.Fatalf("record %d has %d bytes", len(seen), len(record))
			}
			seen = append(seen, behind)
			if len(seen) == stop {
				break
			}
		}
		want := ends
		if stop > 0 {
			want = ends[:stop]
		}
		if !slices.Equal(seen, want) {
			t.Fatalf("stopped at %d: %v; not %v", stop, seen, want)
		}
	}
}
