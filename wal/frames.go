package wal

import (
	"iter"

	"casebook/api"
	"casebook/pack"
)

// A frame's head: the record's length, its Crc.
const (
	sizeBytes = 2
	crcBytes  = 4
	headBytes = sizeBytes + crcBytes
)

const byteBits = 8

func mayBeRecord(b []byte) bool { return len(b) >= 1 && len(b) <= api.MaxFrame }

// frames goes over the whole right frames at the beginning of b: the place behind each, and its record, which shares b's memory.
func frames(b []byte) iter.Seq2[int, []byte] {
	return func(yield func(behind int, record []byte) bool) {
		behind := 0
		for {
			record, ok := first(b[behind:])
			if !ok {
				return
			}
			behind += headBytes + len(record)
			if !yield(behind, record) {
				return
			}
		}
	}
}

// first answers the record of the frame at the beginning of b, if a whole right one stands there.
func first(b []byte) ([]byte, bool) {
	if len(b) < headBytes {
		return nil, false
	}
	size, sum, left := int(num(b[:sizeBytes])), num(b[sizeBytes:headBytes]), b[headBytes:]
	if size > len(left) {
		return nil, false
	}
	record := left[:size]
	if !mayBeRecord(record) || pack.Crc(record) != sum {
		return nil, false
	}
	return record, true
}

// putNum puts so many of a number's lowest bytes behind b, the greatest first.
func putNum(b []byte, v uint32, size int) []byte {
	for left := size - 1; left >= 0; left-- {
		b = append(b, byte(v>>(left*byteBits)))
	}
	return b
}

// num answers the number that putNum put.
func num(b []byte) uint32 {
	v := uint32(0)
	for _, c := range b {
		v = v<<byteBits | uint32(c)
	}
	return v
}
