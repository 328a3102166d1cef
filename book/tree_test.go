package book

import (
	"slices"
	"testing"
)

// wantEven fails unless the branches of each node differ by at most one in height, and heights are what they say.
func wantEven(t *testing.T, n *node[int, int]) int {
	t.Helper()
	if n == nil {
		return 0
	}
	low, high := wantEven(t, n.branches[below]), wantEven(t, n.branches[above])
	if low-high > 1 || high-low > 1 || n.height != 1+max(low, high) {
		t.Fatalf("%d has height %d, its branches %d and %d", n.key, n.height, low, high)
	}
	return n.height
}

// No order in which keys come and go makes a branch long, so that each call ends soon.
func TestBranchesStayAlike(t *testing.T) {
	const many = 300
	rising, falling, inward, spread := make([]int, many), make([]int, many), make([]int, many), make([]int, many)
	for i := range many {
		rising[i], falling[i], spread[i] = i, many-1-i, i*7%many
		inward[i] = i / 2
		if i%2 == 1 {
			inward[i] = many - 1 - i/2
		}
	}
	all := [][]int{rising, falling, inward, spread}
	for _, in := range all {
		for _, out := range all {
			var tr tree[int, int]
			for _, key := range in {
				tr.put(key, key)
				wantEven(t, tr.top)
			}
			for _, key := range out {
				tr.del(key)
				wantEven(t, tr.top)
			}
			if tr.top != nil || tr.size != 0 {
				t.Fatalf("%d are left", tr.size)
			}
		}
	}
}

// The tree is of any keys that have an order, and of any values.
func TestTreeOfTexts(t *testing.T) {
	var tr tree[string, []int]
	for i, key := range []string{"m", "a", "z", "", "b"} {
		tr.put(key, []int{i})
	}
	tr.del("a")
	if got := slices.Collect(tr.from("a")); !slices.Equal(got, []string{"b", "m", "z"}) {
		t.Errorf("from a: %q", got)
	}
	if got := slices.Collect(tr.back("a")); !slices.Equal(got, []string{""}) {
		t.Errorf("back from a: %q", got)
	}
	if v, ok := tr.get("z"); !ok || !slices.Equal(v, []int{2}) {
		t.Errorf("z: %v, %v", v, ok)
	}
}

// Each walk stops at each place at which it is told to, and is as before when it is gone over again.
func TestWalksStopWhenTold(t *testing.T) {
	const many = 40
	var tr tree[int, int]
	for i := range many {
		tr.put(i*7%many, 0)
	}
	up, down := tr.from(0), tr.back(many)
	for stop := range many {
		seen := 0
		for key := range up {
			if key != seen {
				t.Fatalf("%d; not %d", key, seen)
			}
			if seen++; key == stop {
				break
			}
		}
		for key := range down {
			if seen--; key == stop {
				break
			}
		}
		if want := stop + 1 - (many - stop); seen != want {
			t.Fatalf("stopped at %d: %d; not %d", stop, seen, want)
		}
	}
}
