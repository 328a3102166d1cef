package pack_test

import (
	"bytes"
	"encoding/binary"
	"hash/crc32"
	"math"
	"strings"
	"testing"

	"casebook/api"
	"casebook/pack"
)

// written answers what a Writer has behind some calls.
func written(put func(w *pack.Writer)) string {
	var w pack.Writer
	put(&w)
	return string(w.Bytes())
}

// edges are numbers about the places where a byte more is needed.
func edges() []uint64 {
	l := []uint64{0, 1, 2, 42, 300, math.MaxUint64 - 1, math.MaxUint64}
	for bit := range 64 {
		power := uint64(1) << bit
		l = append(l, power-1, power, power+1)
	}
	return l
}

// wrongNums are bytes at whose beginning no number stands.
func wrongNums() map[string]string {
	return map[string]string{
		"nothing":                            "",
		"the last byte is missing":           "\x80",
		"more bytes are missing":             "\xff\xff\xff",
		"ten bytes, and none is the last":    strings.Repeat("\xff", 10),
		"zero in two bytes":                  "\x80\x00",
		"one in two bytes":                   "\x81\x00",
		"127 in three bytes":                 "\xff\x80\x00",
		"a number that ends in zero in ten":  "\xff\xff\xff\xff\xff\xff\xff\xff\xff\x00",
		"2^64":                               "\x80\x80\x80\x80\x80\x80\x80\x80\x80\x02",
		"above 2^64 by more":                 "\xff\xff\xff\xff\xff\xff\xff\xff\xff\x7f",
		"eleven bytes":                       "\xff\xff\xff\xff\xff\xff\xff\xff\xff\x81\x00",
		"eleven bytes whose last one counts": "\x80\x80\x80\x80\x80\x80\x80\x80\x80\x80\x01",
	}
}

// mustBeWrong tells of a Reader that isn't wrong for good.
func mustBeWrong(t *testing.T, name string, r *pack.Reader) {
	t.Helper()
	if r.End() != api.ErrBad {
		t.Errorf("%s: End is %d", name, r.End())
	}
	if r.Num(math.MaxUint64) != 0 || r.Text(math.MaxInt) != "" || r.Yes() {
		t.Errorf("%s: a wrong Reader answers something", name)
	}
	if r.End() != api.ErrBad {
		t.Errorf("%s: a wrong Reader is right again", name)
	}
}

// 1.1

func TestWriterPutsNumbers(t *testing.T) {
	for v, want := range map[uint64]string{
		0:              "\x00",
		1:              "\x01",
		127:            "\x7f",
		128:            "\x80\x01",
		300:            "\xac\x02",
		16383:          "\xff\x7f",
		16384:          "\x80\x80\x01",
		1 << 63:        "\x80\x80\x80\x80\x80\x80\x80\x80\x80\x01",
		math.MaxUint64: "\xff\xff\xff\xff\xff\xff\xff\xff\xff\x01",
	} {
		if got := written(func(w *pack.Writer) { w.Num(v) }); got != want {
			t.Errorf("Num(%d): %x, not %x", v, got, want)
		}
	}
	for _, v := range edges() {
		want := string(binary.AppendUvarint(nil, v))
		if got := written(func(w *pack.Writer) { w.Num(v) }); got != want {
			t.Errorf("Num(%d): %x, not %x", v, got, want)
		}
	}
}

func TestWriterPutsTexts(t *testing.T) {
	long := strings.Repeat("x", 128)
	for s, want := range map[string]string{
		"":         "\x00",
		"ab":       "\x02ab",
		"\x00\xff": "\x02\x00\xff",
		"ä":        "\x02\xc3\xa4",
		long:       "\x80\x01" + long,
	} {
		if got := written(func(w *pack.Writer) { w.Text(s) }); got != want {
			t.Errorf("Text(%q): %x, not %x", s, got, want)
		}
	}
}

func TestWriterPutsYes(t *testing.T) {
	if got := written(func(w *pack.Writer) { w.Yes(true); w.Yes(false) }); got != "\x01\x00" {
		t.Errorf("Yes: %x", got)
	}
}

func TestWriterKeepsTheOrder(t *testing.T) {
	got := written(func(w *pack.Writer) {
		w.Yes(true)
		w.Text("ab")
		w.Num(300)
		w.Text("")
		w.Num(7)
	})
	if got != "\x01\x02ab\xac\x02\x00\x07" {
		t.Errorf("%x", got)
	}
}

func TestWriterWithoutBytes(t *testing.T) {
	var w pack.Writer
	if len(w.Bytes()) != 0 {
		t.Errorf("the zero value has %x", w.Bytes())
	}
	var none *pack.Writer
	none.Num(1)
	none.Text("ab")
	none.Yes(true)
	if len(none.Bytes()) != 0 {
		t.Errorf("a nil Writer has %x", none.Bytes())
	}
}

func TestBytesIsACopy(t *testing.T) {
	var w pack.Writer
	w.Text("ab")
	first := w.Bytes()
	clear(first)
	second := w.Bytes()
	w.Num(9)
	_ = append(second, 77)
	if got := string(w.Bytes()); got != "\x02ab\x09" {
		t.Errorf("%x", got)
	}
	if string(second) != "\x02ab" {
		t.Errorf("what was answered has changed: %x", second)
	}
}

// 1.2

func TestReaderTakesInOrder(t *testing.T) {
	r := pack.New([]byte("\xac\x02\x02ab\x01\x00\x00\x07"))
	if r.End() != api.ErrOrder {
		t.Errorf("End with all bytes left: %d", r.End())
	}
	if v := r.Num(math.MaxUint64); v != 300 {
		t.Errorf("Num: %d", v)
	}
	if s := r.Text(64); s != "ab" {
		t.Errorf("Text: %q", s)
	}
	if !r.Yes() || r.Yes() {
		t.Error("Yes")
	}
	if s := r.Text(64); s != "" || r.End() != api.ErrOrder {
		t.Errorf("an empty Text: %q, End %d", s, r.End())
	}
	if v := r.Num(7); v != 7 || r.End() != api.OK {
		t.Errorf("the last Num: %d, End %d", v, r.End())
	}
}

func TestReaderOfNothing(t *testing.T) {
	for name, r := range map[string]*pack.Reader{"nil": pack.New(nil), "empty": pack.New([]byte{}), "zero": {}} {
		if r.End() != api.OK {
			t.Errorf("%s: End %d", name, r.End())
		}
		for call, take := range map[string]func(r pack.Reader) *pack.Reader{
			"Num":  func(r pack.Reader) *pack.Reader { r.Num(9); return &r },
			"Text": func(r pack.Reader) *pack.Reader { r.Text(9); return &r },
			"Yes":  func(r pack.Reader) *pack.Reader { r.Yes(); return &r },
		} {
			mustBeWrong(t, name+" "+call, take(*r))
		}
	}
}

func TestNilReaderIsWrong(t *testing.T) {
	var none *pack.Reader
	mustBeWrong(t, "nil", none)
}

func TestNumAtMost(t *testing.T) {
	for _, v := range edges() {
		b := binary.AppendUvarint(nil, v)
		r := pack.New(b)
		if got := r.Num(v); got != v || r.End() != api.OK {
			t.Errorf("Num of %d at most that: %d, End %d", v, got, r.End())
		}
		if v == 0 {
			continue
		}
		r = pack.New(append(b, 1))
		if got := r.Num(v - 1); got != 0 {
			t.Errorf("Num of %d at most one less: %d", v, got)
		}
		mustBeWrong(t, "one above most", r)
	}
}

func TestWrongNumbers(t *testing.T) {
	for name, s := range wrongNums() {
		r := pack.New([]byte(s))
		if v := r.Num(math.MaxUint64); v != 0 {
			t.Errorf("%s: Num is %d", name, v)
		}
		mustBeWrong(t, name, r)
	}
}

// Of all that two bytes can be, a number is just what begins with what Num writes of it.
func TestNumOfAnyTwoBytes(t *testing.T) {
	for i := range 1 << 16 {
		b := []byte{byte(i >> 8), byte(i)}
		r := pack.New(b)
		v := r.Num(math.MaxUint64)
		ends := b[0] < 128 || b[1] < 128 && b[1] > 0
		if ends != (r.End() != api.ErrBad) {
			t.Fatalf("%x: End is %d", b, r.End())
		}
		if ends && !bytes.HasPrefix(b, binary.AppendUvarint(nil, v)) {
			t.Fatalf("%x: Num is %d", b, v)
		}
	}
}

func TestTextAtMost(t *testing.T) {
	for _, c := range []struct {
		bytes string
		most  int
		want  string
		end   int
	}{
		{"\x02ab", 2, "ab", api.OK},
		{"\x02ab", 3, "ab", api.OK},
		{"\x02ab", math.MaxInt, "ab", api.OK},
		{"\x02abc", 2, "ab", api.ErrOrder},
		{"\x02ab", 1, "", api.ErrBad},
		{"\x00", 0, "", api.OK},
		{"\x00", -1, "", api.OK},
		{"\x00", math.MinInt, "", api.OK},
		{"\x01a", 0, "", api.ErrBad},
		{"\x01a", -1, "", api.ErrBad},
		{"\x01a", math.MinInt, "", api.ErrBad},
		{"\x02\xff\x00", 2, "\xff\x00", api.OK},
	} {
		r := pack.New([]byte(c.bytes))
		if got := r.Text(c.most); got != c.want || r.End() != c.end {
			t.Errorf("Text(%d) of %x: %q, End %d", c.most, c.bytes, got, r.End())
		}
		if c.end == api.ErrBad {
			mustBeWrong(t, c.bytes, r)
		}
	}
}

func TestWrongTexts(t *testing.T) {
	wrong := wrongNums()
	wrong["a byte is missing"] = "\x03ab"
	wrong["all bytes are missing"] = "\x01"
	wrong["2^63 - 1 bytes"] = "\xff\xff\xff\xff\xff\xff\xff\xff\x7fab"
	wrong["2^63 bytes"] = "\x80\x80\x80\x80\x80\x80\x80\x80\x80\x01ab"
	wrong["2^64 - 1 bytes"] = "\xff\xff\xff\xff\xff\xff\xff\xff\xff\x01ab"
	for name, s := range wrong {
		r := pack.New([]byte(s))
		if got := r.Text(math.MaxInt); got != "" {
			t.Errorf("%s: Text is %q", name, got)
		}
		mustBeWrong(t, name, r)
	}
}

func TestYesOfAnyByte(t *testing.T) {
	for i := range 256 {
		r := pack.New([]byte{byte(i), 0})
		if r.Yes() != (i == 1) {
			t.Errorf("Yes of %d", i)
		}
		if i > 1 {
			mustBeWrong(t, "a byte above 1", r)
		} else if r.End() != api.ErrOrder {
			t.Errorf("Yes of %d: End %d", i, r.End())
		}
	}
}

func TestReaderIsWrongFromThenOn(t *testing.T) {
	r := pack.New([]byte("\x05\x02\x01\x01a\x00"))
	if r.Num(9) != 5 {
		t.Fatal("Num ahead of what is wrong")
	}
	r.Yes()
	mustBeWrong(t, "with bytes left that would be right", r)
}

func TestReaderKeepsNothingOfTheCaller(t *testing.T) {
	b := []byte("\x02ab\x07")
	r := pack.New(b)
	clear(b)
	if s, v := r.Text(2), r.Num(9); s != "ab" || v != 7 {
		t.Errorf("what was handed in is kept: %q, %d", s, v)
	}
	b = []byte("\x02ab\x07")
	r = pack.New(b)
	r.Text(2)
	r.Num(1)
	if string(b) != "\x02ab\x07" {
		t.Errorf("what was handed in has changed: %x", b)
	}
}

// 1.3

func TestCrcOfKnownTexts(t *testing.T) {
	for s, want := range map[string]uint32{
		"":          0,
		"\x00":      0xD202EF8D,
		"a":         0xE8B7BE43,
		"123456789": 0xCBF43926,
		"The quick brown fox jumps over the lazy dog": 0x414FA339,
	} {
		if got := pack.Crc([]byte(s)); got != want {
			t.Errorf("Crc(%q): %08X, not %08X", s, got, want)
		}
	}
	if pack.Crc(nil) != 0 {
		t.Error("Crc of nil")
	}
}

func TestCrcIsThatOfZip(t *testing.T) {
	var b []byte
	for i := range 4096 {
		b = append(b, byte(i*i>>3+i))
		if got, want := pack.Crc(b), crc32.ChecksumIEEE(b); got != want {
			t.Fatalf("Crc of %d bytes: %08X, not %08X", len(b), got, want)
		}
	}
	for i := range 256 {
		one := []byte{byte(i)}
		if got, want := pack.Crc(one), crc32.ChecksumIEEE(one); got != want {
			t.Errorf("Crc of %x: %08X, not %08X", one, got, want)
		}
		if one[0] != byte(i) {
			t.Error("what was handed in has changed")
		}
	}
}

// 1.4

// kinds of what a script writes
const (
	aNum = iota
	aText
	aYes
	kinds
)

type thing struct {
	kind int
	num  uint64
	text string
}

// script answers some things of all kinds, which hang on turn alone.
func script(turn int) []thing {
	var l []thing
	all := edges()
	for i := range turn % 40 {
		v := all[(turn*31+i*17)%len(all)]
		l = append(l, thing{kind: (turn/3 + i*i) % kinds, num: v, text: strings.Repeat(string(rune(v%2000)), (turn+i)%70)})
	}
	return l
}

func put(w *pack.Writer, x thing) {
	switch x.kind {
	case aNum:
		w.Num(x.num)
	case aText:
		w.Text(x.text)
	case aYes:
		w.Yes(x.num%2 == 1)
	}
}

// allOf answers what a Writer has behind these things.
func allOf(l []thing) string {
	return written(func(w *pack.Writer) {
		for _, x := range l {
			put(w, x)
		}
	})
}

func isNext(r *pack.Reader, x thing) bool {
	switch x.kind {
	case aNum:
		return r.Num(x.num) == x.num
	case aText:
		return r.Text(len(x.text)) == x.text
	}
	return r.Yes() == (x.num%2 == 1)
}

func TestWhatWasWrittenIsRead(t *testing.T) {
	for turn := range 2000 {
		l := script(turn)
		b := allOf(l)
		r := pack.New([]byte(b))
		for i, x := range l {
			if r.End() != api.ErrOrder {
				t.Fatalf("turn %d, ahead of thing %d: End %d", turn, i, r.End())
			}
			if !isNext(r, x) {
				t.Fatalf("turn %d, thing %d of %v", turn, i, l)
			}
		}
		if r.End() != api.OK {
			t.Fatalf("turn %d: End %d", turn, r.End())
		}
	}
}

// Of what was written no beginning but the whole is read to its end.
func TestWhatIsCutIsWrong(t *testing.T) {
	for turn := range 200 {
		l := script(turn)
		b := allOf(l)
		for n := range len(b) {
			r := pack.New([]byte(b[:n]))
			for _, x := range l {
				isNext(r, x)
			}
			mustBeWrong(t, "cut", r)
		}
	}
}
