package wal_test

import (
	"bytes"
	"encoding/binary"
	"fmt"
	"hash/crc32"
	"math"
	"slices"
	"strings"
	"testing"

	"casebook/api"
	"casebook/disk"
	"casebook/wal"
)

// head is how many bytes of a frame stand ahead of its record.
const head = 6

// framed answers a frame told otherwise than by Frame: of any bytes, also of some that may be no record, as long as their length goes into two bytes.
func framed(record string) string {
	b := binary.BigEndian.AppendUint16(nil, uint16(len(record)))
	b = binary.BigEndian.AppendUint32(b, crc32.ChecksumIEEE([]byte(record)))
	return string(b) + record
}

// allFramed answers frames that stand one behind the other.
func allFramed(records ...string) string {
	var all string
	for _, record := range records {
		all += framed(record)
	}
	return all
}

// long answers so many bytes, none like the next one.
func long(n int) string {
	b := make([]byte, n)
	for i := range b {
		b[i] = byte(i + i>>8)
	}
	return string(b)
}

func texts(l [][]byte) []string {
	var told []string
	for _, b := range l {
		told = append(told, string(b))
	}
	return told
}

// short tells bytes, of many only the first ones.
func short(s string) string {
	return fmt.Sprintf("%d bytes %.80q", len(s), s)
}

// shortList tells records, of many only the last ones.
func shortList(l []string) string {
	return fmt.Sprintf("%d records, the last ones %.20q", len(l), l[max(0, len(l)-5):])
}

// wantRecords fails unless records are just these.
func wantRecords(t *testing.T, what string, got [][]byte, want ...string) {
	t.Helper()
	if l := texts(got); !slices.Equal(l, want) {
		t.Errorf("%s: %s; not %s", what, shortList(l), shortList(want))
	}
}

// wantRead fails unless Read of these bytes tells just this place and these records.
func wantRead(t *testing.T, what, all string, place int, want ...string) {
	t.Helper()
	b := []byte(all)
	got, at := wal.Read(b)
	wantRecords(t, what, got, want...)
	if at != place {
		t.Errorf("%s: place %d; not %d", what, at, place)
	}
	if string(b) != all {
		t.Errorf("%s: what was handed in has changed", what)
	}
}

// wantDisk fails unless a disk has just these bytes, so many of them synced.
func wantDisk(t *testing.T, what string, d *disk.Disk, all string, synced int) {
	t.Helper()
	if got := string(d.Bytes()); got != all {
		t.Errorf("%s: %s; not %s", what, short(got), short(all))
	}
	if d.Synced() != synced {
		t.Errorf("%s: Synced %d; not %d", what, d.Synced(), synced)
	}
}

// wantOpen fails unless Open tells just these records, and leaves just their frames, synced.
func wantOpen(t *testing.T, what string, d *disk.Disk, want ...string) {
	t.Helper()
	wantRecords(t, what, wal.Open(d), want...)
	all := allFramed(want...)
	wantDisk(t, what, d, all, len(all))
}

// mustPut fails unless Put is done.
func mustPut(t *testing.T, d *disk.Disk, record string) {
	t.Helper()
	if e := wal.Put(d, []byte(record)); e != api.OK {
		t.Fatalf("Put of %s: %d", short(record), e)
	}
}

// holding answers a disk with some bytes that are synced, and behind them some that are not.
func holding(synced, loose string) *disk.Disk {
	d := disk.New()
	d.Append([]byte(synced))
	d.Sync()
	d.Append([]byte(loose))
	return d
}

// noRecords are bytes of which Frame makes no frame.
func noRecords() map[string][]byte {
	return map[string][]byte{
		"nil":                nil,
		"empty":              {},
		"one above MaxFrame": []byte(long(api.MaxFrame + 1)),
		"two above MaxFrame": []byte(long(api.MaxFrame + 2)),
		"2^16 - 1":           []byte(long(1<<16 - 1)),
		"2^16":               []byte(long(1 << 16)),
		"2^16 + 1":           []byte(long(1<<16 + 1)),
		"2^16 + MaxFrame":    []byte(long(1<<16 + api.MaxFrame)),
		"2^24 + 1":           []byte(long(1<<24 + 1)),
	}
}

// 8.1: Frame

func TestFrameOfKnownBytes(t *testing.T) {
	for record, want := range map[string]string{
		"\x00":      "\x00\x01\xd2\x02\xef\x8d\x00",
		"a":         "\x00\x01\xe8\xb7\xbe\x43a",
		"123456789": "\x00\x09\xcb\xf4\x39\x26123456789",
	} {
		got, e := wal.Frame([]byte(record))
		if string(got) != want || e != api.OK {
			t.Errorf("Frame of %q: %x, %d; not %x", record, got, e, want)
		}
	}
}

func TestFrameOfEachLength(t *testing.T) {
	all := long(api.MaxFrame)
	for n := 1; n <= api.MaxFrame; n++ {
		got, e := wal.Frame([]byte(all[:n]))
		if string(got) != framed(all[:n]) || e != api.OK {
			t.Fatalf("Frame of %d bytes: %s, %d", n, short(string(got)), e)
		}
	}
	got, _ := wal.Frame([]byte(all))
	if got[0] != 16 || got[1] != 0 {
		t.Errorf("Frame of %d bytes begins with %x", api.MaxFrame, got[:2])
	}
}

func TestFrameOfEachByte(t *testing.T) {
	for i := range 256 {
		record := string([]byte{byte(i)})
		if got, e := wal.Frame([]byte(record)); string(got) != framed(record) || e != api.OK {
			t.Errorf("Frame of %x: %x, %d", record, got, e)
		}
	}
}

func TestFrameOfWhatMayNotBe(t *testing.T) {
	for name, b := range noRecords() {
		if got, e := wal.Frame(b); len(got) != 0 || e != api.ErrArg {
			t.Errorf("%s: %s, %d", name, short(string(got)), e)
		}
	}
}

func TestFrameIsTheCallersOwn(t *testing.T) {
	whole := []byte("abcdef")
	first, _ := wal.Frame(whole[:3])
	second, _ := wal.Frame(whole[:3])
	_ = append(first, "zzz"...)
	if string(whole) != "abcdef" {
		t.Errorf("what was handed in is %q now", whole)
	}
	clear(first)
	clear(whole)
	if string(second) != framed("abc") {
		t.Errorf("what was answered has changed: %x", second)
	}
}

// 8.2: Read

func TestReadOfNothing(t *testing.T) {
	if l, at := wal.Read(nil); len(l) != 0 || at != 0 {
		t.Errorf("nil: %q, %d", l, at)
	}
	wantRead(t, "empty", "", 0)
}

func TestReadOfFrames(t *testing.T) {
	for _, records := range [][]string{
		{"a"},
		{"a", "a"},
		{"a", "bcd", "\x00", "\x00\x00", "ef"},
		{long(api.MaxFrame)},
		{long(api.MaxFrame), "a", long(api.MaxFrame), long(api.MaxFrame - 1)},
		{long(255), long(256), long(257)},
		{framed("a"), "b", framed(framed("c"))},
	} {
		all := allFramed(records...)
		wantRead(t, fmt.Sprint(len(records), " frames"), all, len(all), records...)
	}
}

func TestReadOfEachLength(t *testing.T) {
	var all string
	var records []string
	for n := 1; n <= api.MaxFrame; n++ {
		record := long(n)
		wantRead(t, fmt.Sprint(n, " bytes"), framed(record), head+n, record)
		if n%64 == 0 {
			records = append(records, record)
			all += framed(record)
		}
	}
	wantRead(t, "all", all, len(all), records...)
}

func TestExampleOfTheDocument(t *testing.T) {
	one, other := framed("abcd"), framed("efgh")
	wantRead(t, "a frame and half of another one", one+other[:len(other)/2], len(one), "abcd")
}

// Wherever frames end too early, those ahead are read.
func TestReadOfWhatIsCut(t *testing.T) {
	records := []string{"a", "bcd", long(300), "\x00", "ef"}
	all := allFramed(records...)
	whole, end := 0, 0
	for n := range len(all) + 1 {
		if whole < len(records) && n == end+head+len(records[whole]) {
			end = n
			whole++
		}
		wantRead(t, fmt.Sprint("the first ", n), all[:n], end, records[:whole]...)
	}
	if whole != len(records) {
		t.Errorf("%d of %d are whole", whole, len(records))
	}
}

// One bit that is turned makes a frame a wrong one: it ends there, and what is behind is not read.
func TestReadOfWhatHasATurnedBit(t *testing.T) {
	ahead, record := allFramed("a", "bcd"), "efghi"
	behind := allFramed("jk", "l")
	for bit := range 8 * (head + len(record)) {
		b := []byte(framed(record))
		b[bit/8] ^= 1 << (bit % 8)
		wantRead(t, fmt.Sprintf("bit %d turned", bit), ahead+string(b)+behind, len(ahead), "a", "bcd")
		wantRead(t, fmt.Sprintf("bit %d turned, alone", bit), string(b), 0)
	}
}

// wrongFrames are bytes at whose beginning no right frame stands, whatever comes behind.
func wrongFrames() map[string]string {
	record := "abc"
	right := framed(record)
	size, sum := right[:2], right[2:head]
	return map[string]string{
		"a length of none, with its Crc":            framed(""),
		"a length of none, with another Crc":        "\x00\x00\x00\x00\x00\x01",
		"a length of none, with the bytes' Crc":     "\x00\x00" + sum + record,
		"many zeros":                                strings.Repeat("\x00", 100),
		"one above MaxFrame, with its Crc":          framed(long(api.MaxFrame + 1)),
		"two above MaxFrame, with its Crc":          framed(long(api.MaxFrame + 2)),
		"twice MaxFrame, with its Crc":              framed(long(2 * api.MaxFrame)),
		"2^16 - 1, with its Crc":                    framed(long(1<<16 - 1)),
		"the length's lesser byte first":            "\x03\x00" + sum + record,
		"the Crc's least byte first":                size + string([]byte{sum[3], sum[2], sum[1], sum[0]}) + record,
		"the Crc of nothing":                        size + "\x00\x00\x00\x00" + record,
		"the Crc of the length and the bytes":       size + framed(size + record)[2:head] + record,
		"the Crc turned":                            size + string([]byte{^sum[0], ^sum[1], ^sum[2], ^sum[3]}) + record,
		"the Crc ahead of the length":               sum + size + record,
		"the length one less":                       "\x00\x02" + sum + record,
		"the length one more":                       "\x00\x04" + sum + record,
		"a byte ahead":                              "\x00" + right,
		"all bits":                                  strings.Repeat("\xff", 1<<17),
		"the bytes of another record":               size + sum + "abd",
		"the first bytes of a record, zeros behind": right[:head+1] + strings.Repeat("\x00", 50),
	}
}

func TestReadOfWrongFrames(t *testing.T) {
	ahead := allFramed("xyz", "u")
	for name, wrong := range wrongFrames() {
		wantRead(t, name, wrong, 0)
		wantRead(t, name+", behind right ones", ahead+wrong, len(ahead), "xyz", "u")
		wantRead(t, name+", among right ones", ahead+wrong+ahead, len(ahead), "xyz", "u")
	}
}

// A frame whose head tells more than is left is none, however much that is.
func TestReadOfAHeadAlone(t *testing.T) {
	ahead := framed("a")
	for n := range 1 << 16 {
		b := binary.BigEndian.AppendUint16([]byte(ahead), uint16(n))
		b = append(b, 0, 0, 0, 0)
		if l, at := wal.Read(b); len(l) != 1 || at != len(ahead) {
			t.Fatalf("a head of %d: %d records, %d", n, len(l), at)
		}
	}
}

func TestReadOfManyRecords(t *testing.T) {
	const many = 1 << 18
	var all []byte
	for i := range many {
		all = append(all, framed(string([]byte{byte(i), byte(i >> 8), byte(i >> 16)}))...)
	}
	l, at := wal.Read(append(all, 0, 1))
	if len(l) != many || at != len(all) {
		t.Fatalf("%d records, %d", len(l), at)
	}
	for i, b := range l {
		if !bytes.Equal(b, []byte{byte(i), byte(i >> 8), byte(i >> 16)}) {
			t.Fatalf("record %d: %x", i, b)
		}
	}
}

func TestRecordsAreTheCallersOwn(t *testing.T) {
	all := allFramed("abc", "def", "ghi")
	b := []byte(all)
	one, _ := wal.Read(b)
	two, _ := wal.Read(b)
	clear(one[0])
	_ = append(one[0], "zzzzzzzzzzzzzzzzzz"...)
	_ = append(one[1][:1], "yyyyyyyyyyyyyyyyyy"...)
	wantRecords(t, "the changed ones", one, "\x00\x00\x00", "def", "ghi")
	wantRecords(t, "those of another call", two, "abc", "def", "ghi")
	if string(b) != all {
		t.Errorf("what was handed in is %q now", b)
	}
	clear(b)
	wantRecords(t, "behind a change of what was handed in", two, "abc", "def", "ghi")
}

// plainRead is Read told otherwise: at each place it asks if there stands what a record is framed as.
func plainRead(all string) ([]string, int) {
	var records []string
	place := 0
	for {
		left := all[place:]
		found := false
		for n := 1; n <= api.MaxFrame && head+n <= len(left); n++ {
			if record := left[head : head+n]; int(left[0])<<8+int(left[1]) == n && framed(record) == left[:head+n] {
				records = append(records, record)
				place += head + n
				found = true
				break
			}
		}
		if !found {
			return records, place
		}
	}
}

// Frames at which bytes were changed, put in, taken out or cut off are read as far as they are right.
func TestReadIsAsToldOtherwise(t *testing.T) {
	next := numbers()
	whole := 0
	for range 20000 {
		var all string
		for range next(6) {
			all += framed(long(next(12) + 1))
		}
		b := []byte(all)
		for range next(3) {
			at := next(len(b) + 1)
			switch next(4) {
			case 0:
				b = slices.Insert(b, at, byte(next(256)))
			case 1:
				b = b[:at]
			case 2:
				b = slices.Delete(b, at, min(at+1+next(9), len(b)))
			case 3:
				if at < len(b) {
					b[at] = byte(next(256))
				}
			}
		}
		records, place := plainRead(string(b))
		wantRead(t, fmt.Sprintf("%x", b), string(b), place, records...)
		if t.Failed() {
			t.FailNow()
		}
		whole += len(records)
	}
	if whole < 10000 {
		t.Errorf("only %d records were read", whole)
	}
}

// 8.3: Open

func TestOpen(t *testing.T) {
	one, two := framed("abc"), framed("de")
	for name, c := range map[string]struct {
		synced, loose string
		want          []string
	}{
		"nothing":                       {"", "", nil},
		"one, synced":                   {one, "", []string{"abc"}},
		"one, not synced":               {"", one, []string{"abc"}},
		"two, one of them synced":       {one, two, []string{"abc", "de"}},
		"two, and half of one":          {one, two + one[:7], []string{"abc", "de"}},
		"half of one":                   {"", one[:7], nil},
		"half of one, synced":           {one[:7], "", nil},
		"half of one is synced":         {one[:7], one[7:], []string{"abc"}},
		"half of the other is synced":   {one + two[:3], two[3:], []string{"abc", "de"}},
		"half of one, and another one":  {one[:7], two, nil},
		"what is wrong, synced":         {one + "\x00\x01wrong" + two, "", []string{"abc"}},
		"what is wrong, not synced":     {one, "\x00\x01wrong" + two, []string{"abc"}},
		"nothing right":                 {strings.Repeat("\x00", 99), "more", nil},
		"the greatest, and half of one": {framed(long(api.MaxFrame)), one[:1], []string{long(api.MaxFrame)}},
	} {
		d := holding(c.synced, c.loose)
		wantOpen(t, name, d, c.want...)
		wantOpen(t, name+", again", d, c.want...)
		d.Crash(0)
		wantOpen(t, name+", behind a crash", d, c.want...)
	}
}

func TestOpenOfWrongFrames(t *testing.T) {
	for name, wrong := range wrongFrames() {
		wantOpen(t, name, holding(wrong, ""))
		wantOpen(t, name+", behind a right one", holding(framed("xyz"), wrong+framed("u")), "xyz")
	}
}

// Where a wrong frame stood, the next one stands.
func TestPutBehindOpen(t *testing.T) {
	d := holding(framed("abc"), framed("de")[:7])
	wantOpen(t, "a frame and half of another one", d, "abc")
	mustPut(t, d, "f")
	wantDisk(t, "and one more", d, allFramed("abc", "f"), len(framed("abc")))
	wantOpen(t, "and one more", d, "abc", "f")
}

func TestOpenTellsTheCallersOwn(t *testing.T) {
	d := holding(allFramed("abc", "de"), "")
	one, two := wal.Open(d), wal.Open(d)
	clear(one[0])
	_ = append(one[0], "zzzzzzzzzzzzzzzzzz"...)
	wantRecords(t, "the changed ones", one, "\x00\x00\x00", "de")
	wantRecords(t, "those of another call", two, "abc", "de")
	wantOpen(t, "behind a change of what was answered", d, "abc", "de")
	wal.Put(d, []byte("f"))
	d.Cut(3)
	wantRecords(t, "behind a change of the disk", two, "abc", "de")
}

// 8.3: Put

func TestPut(t *testing.T) {
	d := disk.New()
	mustPut(t, d, "abc")
	wantDisk(t, "the first", d, framed("abc"), 0)
	mustPut(t, d, "de")
	wantDisk(t, "the next", d, allFramed("abc", "de"), 0)
	d.Sync()
	mustPut(t, d, "abc")
	wantDisk(t, "behind a Sync", d, allFramed("abc", "de", "abc"), len(allFramed("abc", "de")))
	mustPut(t, d, long(api.MaxFrame))
	wantDisk(t, "the greatest", d, allFramed("abc", "de", "abc", long(api.MaxFrame)), len(allFramed("abc", "de")))
}

func TestPutOfWhatMayNotBe(t *testing.T) {
	for name, b := range noRecords() {
		d := holding(framed("abc"), framed("de"))
		if e := wal.Put(d, b); e != api.ErrArg {
			t.Errorf("%s: %d", name, e)
		}
		wantDisk(t, name, d, allFramed("abc", "de"), len(framed("abc")))
	}
}

// Put looks at nothing that the disk has.
func TestPutBehindAnything(t *testing.T) {
	d := holding("what", "ever")
	mustPut(t, d, "a")
	wantDisk(t, "a Put", d, "whatever"+framed("a"), 4)
}

func TestPutDoesNotKeepNorChangeWhatIsHandedIn(t *testing.T) {
	whole := []byte("abcdef")
	d := disk.New()
	wal.Put(d, whole[:3])
	wal.Put(d, whole[:1])
	if string(whole) != "abcdef" {
		t.Errorf("what was handed in is %q now", whole)
	}
	clear(whole)
	wantDisk(t, "behind a change of what was handed in", d, allFramed("abc", "a"), 0)
}

// 8.3: of a nil disk

func TestOfNil(t *testing.T) {
	wantRecords(t, "Open", wal.Open(nil))
	if e := wal.Put(nil, []byte("a")); e != api.OK {
		t.Errorf("Put: %d", e)
	}
	for name, b := range noRecords() {
		if e := wal.Put(nil, b); e != api.ErrArg {
			t.Errorf("Put, %s: %d", name, e)
		}
	}
	wantRecords(t, "Open behind a Put", wal.Open(nil))
}

// A disk that disk.New did not make is as an empty one.
func TestOfZeroDisk(t *testing.T) {
	var d disk.Disk
	wantOpen(t, "zero", &d)
	mustPut(t, &d, "a")
	wantOpen(t, "with one", &d, "a")
}

func TestDisksAreApart(t *testing.T) {
	one, two := disk.New(), disk.New()
	mustPut(t, one, "a")
	mustPut(t, two, "b")
	wantOpen(t, "one", one, "a")
	two.Crash(math.MinInt)
	wantOpen(t, "two", two)
	wantOpen(t, "one again", one, "a")
}
