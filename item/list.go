package item

import "casebook/pack"

// putList writes how many things there are, and each.
func putList[T any](w *pack.Writer, l []T, put func(w *pack.Writer, x T)) {
	putInt(w, len(l))
	for _, x := range l {
		put(w, x)
	}
}

// getList reads what putList wrote of at most so many things.
func getList[T any](r *pack.Reader, most int, get func(r *pack.Reader) T) []T {
	var l []T
	for range getInt(r, most) {
		l = append(l, get(r))
	}
	return l
}

// putInt writes a number that isn't below 0.
func putInt(w *pack.Writer, n int) { w.Num(uint64(n)) }

func getInt(r *pack.Reader, most int) int { return int(r.Num(uint64(most))) }
