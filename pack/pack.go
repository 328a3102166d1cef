// Package pack is bytes: see DOC.md, chapter 1.
package pack

import (
	"bytes"

	"casebook/api"
)

const (
	numBits = 7            // of a number in each of its bytes
	numMore = 1 << numBits // in each byte of a number but the last one
	numLast = 9            // the place of the tenth byte, which has one bit of 64 left
)

// Writer is chapter 1's.
type Writer struct {
	all []byte
}

// Num is chapter 1's.
func (w *Writer) Num(v uint64) {
	if w == nil {
		return
	}
	for ; v >= numMore; v >>= numBits {
		w.all = append(w.all, byte(v)|numMore)
	}
	w.all = append(w.all, byte(v))
}

// Text is chapter 1's.
func (w *Writer) Text(s string) {
	if w == nil {
		return
	}
	w.Num(uint64(len(s)))
	w.all = append(w.all, s...)
}

// Yes is chapter 1's.
func (w *Writer) Yes(is bool) {
	if is {
		w.Num(1)
	} else {
		w.Num(0)
	}
}

// Bytes is chapter 1's.
func (w *Writer) Bytes() []byte {
	if w == nil {
		return nil
	}
	return bytes.Clone(w.all)
}

// Reader is chapter 1's.
type Reader struct {
	left  []byte
	wrong bool
}

// New is chapter 1's.
func New(b []byte) *Reader { return &Reader{left: bytes.Clone(b)} }

// Num is chapter 1's.
func (r *Reader) Num(most uint64) uint64 {
	if r.isWrong() {
		return 0
	}
	v, size := firstNum(r.left)
	if size == 0 || v > most {
		r.wrong = true
		return 0
	}
	r.left = r.left[size:]
	return v
}

// Text is chapter 1's.
func (r *Reader) Text(most int) string {
	size := r.Num(uint64(max(most, 0)))
	if r.isWrong() {
		return ""
	}
	if size > uint64(len(r.left)) {
		r.wrong = true
		return ""
	}
	s := string(r.left[:size])
	r.left = r.left[size:]
	return s
}

// Yes is chapter 1's.
func (r *Reader) Yes() bool {
	// A byte above 1 begins no number that is at most 1.
	return r.Num(1) == 1
}

// End is chapter 1's.
func (r *Reader) End() int {
	if r.isWrong() {
		return api.ErrBad
	}
	if len(r.left) > 0 {
		return api.ErrOrder
	}
	return api.OK
}

func (r *Reader) isWrong() bool { return r == nil || r.wrong }

// firstNum answers the number at the beginning of b, and how many bytes it has: 0, if there is no number.
func firstNum(b []byte) (uint64, int) {
	v := uint64(0)
	for i, c := range b {
		if i == numLast && c > 1 {
			return 0, 0
		}
		v |= uint64(c%numMore) << (i * numBits)
		if c >= numMore {
			continue
		}
		if c == 0 && i > 0 { // it could be written shorter
			return 0, 0
		}
		return v, i + 1
	}
	return 0, 0
}
